/-
  The landed Long, Told, whether a number lies within bounds, and whether a text is bytes 0, of package frame of layer 18, answer what the plain mathematics of the text Frm says; all memory that was there is left as it was. Conditions: short texts, numbers of 64 bits; for Told the listed tables.
-/
import Derived.Test.YtedgpglldlohfaaDoorFrl
import Derived.Test.YtedgpglldlohfaaDoorShelf
namespace Go.Proofs.YtedgpglldlohfaaDoor.Frl
open Go.RowKit Mur Lanes Prt Tap Cel Frm
set_option maxRecDepth 100000
set_option linter.unusedSimpArgs false

set_option maxHeartbeats 1600000 in
theorem long_any (c s : Int) (w : World) (hc : InR c) (hs : InR s) : Calls Tryd.prog 9 #[.int .i64 c, .int .i64 s] w fun z w' => z = .returned (.int .i64 (long c s)) ∧ Below w.heap.size w w' := by
  obtain ⟨T, hT⟩ : ∃ T, T = long c s := ⟨_, rfl⟩
  rw [← hT]
  unfold long at hT
  unfold InR at hc hs
  by_cases h0 : c < 1
  · have d0 : decide (c < 1) = true := decide_eq_true h0
    obtain rfl : T = 0 := by rw [hT, if_pos (by omega)]
    clear hT
    go_enter Tryd.func9, Tryd.ntmps9
    go_wp2
    go_ret
    exact ⟨rfl, Below.refl _ _⟩
  have d0 : decide (c < 1) = false := decide_eq_false h0
  by_cases h1 : 16 < c
  · have d1 : decide (16 < c) = true := decide_eq_true h1
    obtain rfl : T = 0 := by rw [hT, if_pos (by omega)]
    clear hT
    go_enter Tryd.func9, Tryd.ntmps9
    go_wp2
    go_ret
    exact ⟨rfl, Below.refl _ _⟩
  have d1 : decide (16 < c) = false := decide_eq_false h1
  by_cases h2 : s < 0
  · have d2 : decide (s < 0) = true := decide_eq_true h2
    obtain rfl : T = 0 := by rw [hT, if_pos (by omega)]
    clear hT
    go_enter Tryd.func9, Tryd.ntmps9
    go_wp2
    go_ret
    exact ⟨rfl, Below.refl _ _⟩
  have d2 : decide (s < 0) = false := decide_eq_false h2
  by_cases h3 : 2000 < s
  · have d3 : decide (2000 < s) = true := decide_eq_true h3
    obtain rfl : T = 0 := by rw [hT, if_pos (by omega)]
    clear hT
    go_enter Tryd.func9, Tryd.ntmps9
    go_wp2
    go_ret
    exact ⟨rfl, Below.refl _ _⟩
  have d3 : decide (2000 < s) = false := decide_eq_false h3
  have hT2 : T = 8 + c + s := by rw [hT, if_neg (by omega)]
  have w1 : wrap64 (8 + c) = 8 + c := IntWalk.wrap64_in _ (by omega)
  have w2 : wrap64 (8 + c + s) = T := by rw [hT2]; exact IntWalk.wrap64_in _ (by omega)
  clear hT
  go_enter Tryd.func9, Tryd.ntmps9
  go_wp2
  go_ret
  exact ⟨by first | rfl | rw [hT2], Below.refl _ _⟩

theorem dw_nil : ∀ l : List UInt8, l.dropWhile (· == 0) = [] → ∀ x ∈ l, x = 0
  | [], _, x, hx => by cases hx
  | a :: l, h, x, hx => by
    rw [List.dropWhile_cons] at h
    split at h
    · rename_i ha
      rcases List.mem_cons.1 hx with e | e
      · rw [e]; simpa using ha
      · exact dw_nil l h x e
    · cases h
theorem dw_all : ∀ l : List UInt8, (∀ x ∈ l, x = 0) → l.dropWhile (· == 0) = []
  | [], _ => rfl
  | a :: l, h => by
    rw [List.dropWhile_cons, if_pos (by rw [h a (by simp)]; rfl)]
    exact dw_all l fun x hx => h x (List.mem_cons_of_mem _ hx)
theorem dw_head : ∀ (l : List UInt8) (y : UInt8) (r : List UInt8), l.dropWhile (· == 0) = y :: r → y ≠ 0
  | [], y, r, h => by cases h
  | a :: l, y, r, h => by
    rw [List.dropWhile_cons] at h
    split at h
    · exact dw_head l y r h
    · rename_i ha
      injection h with h1 h2
      rw [← h1]
      simpa using ha
theorem trim_nil (l : List UInt8) : (Lib.trimB l 0).isEmpty = Frm.noughts l := by
  have h : (Lib.trimB l 0 = []) ↔ Frm.noughts l = true := by
    unfold Lib.trimB Lib.trimLeftB Lib.trimRightB Frm.noughts
    rw [List.all_eq_true]
    constructor
    · intro h x hx
      have h2 : l.reverse.dropWhile (· == (0 : UInt8)) = [] := by
        cases hd : l.reverse.dropWhile (· == (0 : UInt8)) with
        | nil => rfl
        | cons y r =>
          rw [hd, List.reverse_cons] at h
          exact absurd (dw_nil _ h y (by simp)) (dw_head _ _ _ hd)
      have := dw_nil _ h2 x (by simpa using hx)
      simpa using this
    · intro h
      rw [dw_all l.reverse fun x hx => by
        have := h x (by simpa using hx)
        simpa using this]
      rfl
  cases hb : Frm.noughts l with
  | true => rw [h.2 hb]; rfl
  | false =>
    cases ht : Lib.trimB l 0 with
    | nil => rw [h.1 ht] at hb; cases hb
    | cons y r => rfl
theorem trim_any (s X : ByteArray) (w : World) (hX : X = tx (Lib.trimB s.data.toList 0)) (hs : s.size ≤ 140737488351232) : Calls Tryd.prog 44 #[.string s, .string ⟨#[0]⟩] w fun e w' => e = .returned (.string X) ∧ Below w.heap.size w w' :=
  (Any.strings_Trim_one Tryd.lays160 s 0 (by decide) w (by omega)).mono fun e w' h => ⟨by rw [h.1, hX], by rcases h.2 with h | h <;> rw [h]; exact Below.refl _ _; exact (Below.refl _ _).drew⟩

set_option maxHeartbeats 1600000 in
theorem within_any (n m : Int) (B : Bool) (w : World) (hB : B = (decide (0 ≤ n) && decide (n ≤ m))) : Calls Tryd.prog 30 #[.int .i64 n, .int .i64 m] w fun z w' => z = .returned (.bool B) ∧ Below w.heap.size w w' := by
  by_cases h0 : 0 ≤ n
  · have d0 : decide (0 ≤ n) = true := decide_eq_true h0
    by_cases h1 : n ≤ m
    · have d1 : decide (n ≤ m) = true := decide_eq_true h1
      obtain rfl : B = true := by rw [hB, d0, d1]; rfl
      clear hB
      go_enter Tryd.func30, Tryd.ntmps30
      go_wp2
      go_ret
      exact ⟨rfl, Below.refl _ _⟩
    · have d1 : decide (n ≤ m) = false := decide_eq_false h1
      obtain rfl : B = false := by rw [hB, d0, d1]; rfl
      clear hB
      go_enter Tryd.func30, Tryd.ntmps30
      go_wp2
      go_ret
      exact ⟨rfl, Below.refl _ _⟩
  · have d0 : decide (0 ≤ n) = false := decide_eq_false h0
    obtain rfl : B = false := by rw [hB, d0]; rfl
    clear hB
    go_enter Tryd.func30, Tryd.ntmps30
    go_wp2
    go_ret
    exact ⟨rfl, Below.refl _ _⟩

set_option maxHeartbeats 1600000 in
theorem nought_any (s : ByteArray) (B : Bool) (w : World) (hB : B = Frm.noughts s.data.toList) (hs : s.size ≤ 100000) :
    Calls Tryd.prog 39 #[.string s] w fun z w' => z = .returned (.bool B) ∧ Below w.heap.size w w' := by
  obtain ⟨X, hX⟩ : ∃ X, X = tx (Lib.trimB s.data.toList 0) := ⟨_, rfl⟩
  have R := Lib.hid (fun u => trim_any s X u hX (by omega))
  have he : X.toList.isEmpty = B := by
    rw [hX, hB, ← trim_nil, Lib.toList_data]
  have HE := Lib.hid he
  clear hB hX he
  go_enter Tryd.func39, Tryd.ntmps39
  go_wp2_with fail
  refine (R.out _).mono ?_
  rintro e w1 ⟨rfl, hb⟩
  have HB := Lib.hid hb
  clear hb
  cases B with
  | true =>
    have he := HE.out
    go_wp2
    go_ret
    exact ⟨rfl, HB.out⟩
  | false =>
    have he := HE.out
    go_wp2
    go_ret
    exact ⟨rfl, HB.out⟩

theorem join5 (De Ds Dq t X : ByteArray) (b : Nat) (w : World) (hX : X = tx ([115, 97, 121, 32] ++ (De.data.toList ++ ([32] ++ (Ds.data.toList ++ ([32] ++ (Dq.data.toList ++ ([32] ++ t.data.toList)))))))) (hs : X.size ≤ 200000) (hb : b < w.heap.size) (h0 : w.cell? ⟨b, 0, none⟩ = some (.string ⟨#[115, 97, 121]⟩)) (h1 : w.cell? ⟨b, 1, none⟩ = some (.string De)) (h2 : w.cell? ⟨b, 2, none⟩ = some (.string Ds)) (h3 : w.cell? ⟨b, 3, none⟩ = some (.string Dq)) (h4 : w.cell? ⟨b, 4, none⟩ = some (.string t)) :
    Calls Tryd.prog 43 #[.slice (some ⟨b, 0, none⟩) 5 5, .string ⟨#[32]⟩] w fun e w' => e = .returned (.string X) ∧ Below w.heap.size w w' := by
  have e : tx (Lib.join ([⟨#[115, 97, 121]⟩, De, Ds, Dq, t].map (·.data.toList)) (⟨#[32]⟩ : ByteArray).data.toList) = X := by
    rw [hX]
    unfold Lib.join
    simp [List.intercalate, List.intersperse]
  have h := Any.strings_Join Tryd.lays156 Tryd.Builder_Extra_156 b 0 5 [⟨#[115, 97, 121]⟩, De, Ds, Dq, t] ⟨#[32]⟩ w (fun j x hx => by
    match j, hx with
    | 0, hx => cases hx; exact h0
    | 1, hx => cases hx; exact h1
    | 2, hx => cases hx; exact h2
    | 3, hx => cases hx; exact h3
    | 4, hx => cases hx; exact h4) hb (by simp) (by simp) (by
      have : (tx (Lib.join ([⟨#[115, 97, 121]⟩, De, Ds, Dq, t].map (·.data.toList)) (⟨#[32]⟩ : ByteArray).data.toList)).size ≤ 200000 := by rw [e]; exact hs
      rw [tx_len] at this
      omega)
  refine h.mono fun z w' hh => ⟨?_, hh.2⟩
  rw [hh.1]
  exact congrArg (fun q => Ending.returned (Value.string q)) e

/-- Derive of one short text that lies in a block. -/
theorem derive_mask (key X : ByteArray) (b : Nat) (w : World) (hkey : key.size ≤ 1000) (hb : b < w.heap.size) (hc : w.cell? ⟨b, 0, none⟩ = some (.string ⟨#[109, 97, 115, 107]⟩)) (hX : X = tx (maskKey key.data.toList)) (hl : Laid w) :
    Calls Tryd.prog 36 #[.string key, .int .i64 32, .slice (some ⟨b, 0, none⟩) 1 1] w fun e w' => e = .returned (.string X) ∧ Below w.heap.size w w' :=
  Ked.derive_any key 32 [⟨#[109, 97, 115, 107]⟩] X (some ⟨b, 0, none⟩) b 0 1 w (by omega) (fun _ => ⟨rfl, hb⟩) (fun i hi => by match i, hi with | 0, _ => exact hc) (by decide) (by decide) (fun s hs => by obtain rfl := List.mem_singleton.1 hs; decide) (by rw [hX]; rfl) hl.consts
theorem high_zero (Z : ByteArray) (w : World) (hZ : Z = tx (zeros 12)) : Calls Tryd.prog 37 #[.int .u64 0, .int .i64 12] w fun e w' => e = .returned (.string Z) ∧ Below w.heap.size w w' := by
  have h := Lanes.high_any 0 12 w (by decide) (by decide) (by decide)
  have e : (⟨(Lanes.high 0 (Lanes.widthOf 12)).toArray⟩ : ByteArray) = Z := by rw [hZ]; decide
  rw [e] at h
  exact h

set_option maxHeartbeats 3200000 in
theorem masked_any (seed s X : ByteArray) (w : World) (hX : X = Frm.hidB seed.data.toList s) (hk : seed.size ≤ 1000) (hs : s.size ≤ 6000) (hl : Laid w) :
    Calls Tryd.prog 31 #[.string seed, .string s] w fun z w' => z = .returned (.string X) ∧ Below w.heap.size w w' := by
  obtain ⟨w0, hw0⟩ : ∃ w0, w0 = w := ⟨w, rfl⟩
  subst hw0
  obtain ⟨K, hK⟩ : ∃ K, K = tx (maskKey seed.data.toList) := ⟨_, rfl⟩
  obtain ⟨Z, hZ⟩ : ∃ Z, Z = tx (zeros 12) := ⟨_, rfl⟩
  have hKs : K.size = 32 := by rw [hK, tx_len, maskKey_length]
  have hZs : Z.size = 12 := by rw [hZ, tx_len]; rfl
  have RD := Lib.hid (fun (q : Nat) (u : World) (hq : q < u.heap.size) (h0 : u.cell? ⟨q, 0, none⟩ = some (.string ⟨#[109, 97, 115, 107]⟩)) (hu : Laid u) => derive_mask seed K q u hk hq h0 hK hu)
  have RZ := Lib.hid (fun u => high_zero Z u hZ)
  have RH := Lib.hid (fun u => Cha.hide_ok K Z s X u ⟨⟨hKs, hZs⟩, hs⟩ (by rw [hX, hid_is, hK, hZ]))
  have HM := Lib.hid (Hold.Hld.start w0)
  have HL := Lib.hid hl
  clear hX hk hs hK hZ hKs hZs hl
  go_enter Tryd.func31, Tryd.ntmps31
  go_wp2_with fail
  replace HM := Lib.hid (HM.out.add 9 [.string ⟨#[109, 97, 115, 107]⟩])
  simp only [List.nil_append] at HM
  refine (RD.out _ _ (HM.out.at 0 rfl).lt ((HM.out.at 0 rfl).row.cell rfl) (HL.out.below HM.out.below)).mono ?_
  rintro e w2 ⟨rfl, hb⟩
  replace HM := Lib.hid (HM.out.next hb)
  clear hb
  go_wp2_with ((first
    | ((with_reducible refine (RZ.out _).mono ?_); rintro e w ⟨rfl, hb⟩; replace HM := Lib.hid (HM.out.next hb); clear hb)
    | ((with_reducible refine (RH.out _).mono ?_); rintro e w ⟨rfl, hb⟩; replace HM := Lib.hid (HM.out.next hb); clear hb)))
  go_ret
  exact ⟨rfl, HM.out.below⟩
end Go.Proofs.YtedgpglldlohfaaDoor.Frl
