/-
  sized and first of package tape: what the plain mathematics of the text Tap says; all memory that was there is left as it was. Conditions: a text has at most 10^9 bytes.
-/
import Derived.Test.YtpamdpfgcbadhaaDoorTpQ
namespace Go.Proofs.YtpamdpfgcbadhaaDoor.Tape
open Go.RowKit Mur Prt Lanes Tap Cel RTap Hold
set_option maxRecDepth 100000
set_option linter.unusedSimpArgs false

set_option maxHeartbeats 1600000 in
theorem sized_any (s A R : ByteArray) (B : Bool) (w : World) (hA : A = cutA (cutT s.data.toList)) (hR : R = cutB (cutT s.data.toList)) (hB : B = (cutT s.data.toList).isSome) (hs : s.size ≤ 1000000000) :
    Calls Tryd.prog 49 #[.string s] w fun e w' => e = .returned (.tuple #[.string A, .string R, .bool B]) ∧ Below w.heap.size w w' := by
  have hsl : s.data.toList.length = s.size := rfl
  by_cases h2 : s.size < 2
  · have hc : cutT s.data.toList = none := by rw [cutT, if_pos (by rw [hsl]; exact h2)]
    rw [hc] at hA hR hB
    obtain rfl : A = ⟨#[]⟩ := hA
    obtain rfl : R = ⟨#[]⟩ := hR
    obtain rfl : B = false := hB
    have d1 : decide ((s.size : Int) < 2) = true := decide_eq_true (by omega)
    have d1b : decide (s.size < 2) = true := decide_eq_true h2
    clear hc hsl h2
    go_enter Tryd.func49, Tryd.ntmps49
    go_wp2
    go_ret3
    exact ⟨rfl, Below.refl _ _⟩
  have d1 : decide ((s.size : Int) < 2) = false := decide_eq_false (by omega)
  have d1b : decide (s.size < 2) = false := decide_eq_false h2
  obtain ⟨x, hx⟩ : ∃ x, s.data.toList[0]? = some x := ⟨_, List.getElem?_eq_getElem (by omega)⟩
  obtain ⟨y, hy⟩ : ∃ y, s.data.toList[1]? = some y := ⟨_, List.getElem?_eq_getElem (by omega)⟩
  have e0 : s[0] = x := (List.getElem?_eq_some_iff.1 hx).2
  have e1 : s[1] = y := (List.getElem?_eq_some_iff.1 hy).2
  have i0 : ∀ u, (Instr.index 9 (.string s) (.int .i64 0)).run Tryd.prog u = .ok (.int .u8 (x.toNat : Int)) u := fun u => by
    rw [run_index_string (P := Tryd.prog) u 9 s .i64 0 Tryd.underlying9, dif_pos ⟨by omega, by omega⟩]
    simp only [Int.toNat_zero, e0]
  have i1 : ∀ u, (Instr.index 9 (.string s) (.int .i64 1)).run Tryd.prog u = .ok (.int .u8 (y.toNat : Int)) u := fun u => by
    rw [run_index_string (P := Tryd.prog) u 9 s .i64 1 Tryd.underlying9, dif_pos ⟨by omega, by omega⟩]
    simp only [Int.toNat_one, e1]
  obtain ⟨v, hv⟩ : ∃ v, v = x.toNat * 256 + y.toNat := ⟨_, rfl⟩
  have hval : val (s.data.toList.take 2) = v := by
    have h3 : s.data.toList.take 2 = [x, y] := by
      match hl : s.data.toList, hx, hy with
      | a :: b :: r, hx, hy => cases hx; cases hy; rfl
      | [a], hx, hy => cases hy
      | [], hx, hy => cases hx
    rw [h3, hv]
    simp [val]
  have hor := or_byte x y
  rw [← hv] at hor
  have hp : (2 : Int) ^ 8 = 256 := by decide
  have hxl := x.toNat_lt
  have hyl := y.toNat_lt
  obtain ⟨S, hS⟩ : ∃ S, S = tx (s.data.toList.drop 2) := ⟨_, rfl⟩
  have hSl : S.data.toList = s.data.toList.drop 2 := by rw [hS]
  have hSs : S.size = s.size - 2 := by rw [hS, tx_size, List.length_drop, hsl]
  have hs2 : ∀ u, (Instr.slice 9 (.string s) (some (.int .i64 2)) none none).run Tryd.prog u = .ok (.string S) u := fun u => by
    have := run_slice_string_l (P := Tryd.prog) u 9 s Tryd.underlying9 .i64 2 (by omega) (by omega)
    rw [this, show (2 : Int).toNat = 2 from rfl, piece_mid, List.take_of_length_le (by rw [List.length_drop, hsl]; exact Nat.le_refl _), hS]
  clear e0 e1 hx hy hS
  by_cases h3 : s.size - 2 < v
  · have hc : cutT s.data.toList = none := by rw [cutT, if_neg (by rw [hsl]; exact h2), hval, if_pos (by rw [hsl]; exact h3)]
    rw [hc] at hA hR hB
    obtain rfl : A = ⟨#[]⟩ := hA
    obtain rfl : R = ⟨#[]⟩ := hR
    obtain rfl : B = false := hB
    have d2 : decide ((S.size : Int) < (v : Int)) = true := decide_eq_true (by omega)
    have d2b : decide (S.size < v) = true := decide_eq_true (by omega)
    clear hc hsl hval hv hSl hSs h3
    go_enter Tryd.func49, Tryd.ntmps49
    go_wp2
    go_quiet (fail)
    go_wp2
    go_ret3
    exact ⟨rfl, belowN (Below.refl _ _) nq⟩
  · have hc : cutT s.data.toList = some ((s.data.toList.drop 2).take v, (s.data.toList.drop 2).drop v) := by rw [cutT, if_neg (by rw [hsl]; exact h2), hval, if_neg (by rw [hsl]; exact h3)]
    rw [hc] at hA hR hB
    obtain rfl : B = true := hB
    have hA2 : S.extract 0 v = A := by
      rw [hA, piece_mid, hSl, List.drop_zero, Nat.sub_zero]
      rfl
    have hR2 : S.extract v S.size = R := by
      rw [hR, piece_mid, hSl, hSs]
      show tx _ = tx ((s.data.toList.drop 2).drop v)
      rw [List.take_of_length_le (by rw [List.length_drop, List.length_drop, hsl]; exact Nat.le_refl _)]
    have hsA : ∀ u, (Instr.slice 9 (.string S) none (some (.int .i64 (v : Int))) none).run Tryd.prog u = .ok (.string A) u := fun u => by
      have := run_slice_string_h (P := Tryd.prog) u 9 S Tryd.underlying9 .i64 (v : Int) (by omega) (by omega)
      rw [this, show ((v : Int)).toNat = v by omega, hA2]
    have hsR : ∀ u, (Instr.slice 9 (.string S) (some (.int .i64 (v : Int))) none none).run Tryd.prog u = .ok (.string R) u := fun u => by
      have := run_slice_string_l (P := Tryd.prog) u 9 S Tryd.underlying9 .i64 (v : Int) (by omega) (by omega)
      rw [this, show ((v : Int)).toNat = v by omega, hR2]
    have d2 : decide ((S.size : Int) < (v : Int)) = false := decide_eq_false (by omega)
    have d2b : decide (S.size < v) = false := decide_eq_false (by omega)
    clear hc hsl hval hv hA hR hA2 hR2 hSl hSs h3
    go_enter Tryd.func49, Tryd.ntmps49
    go_wp2
    go_quiet (fail)
    go_wp2
    go_quiet (fail)
    go_wp2
    go_ret3
    exact ⟨rfl, belowN (belowN (Below.refl _ _) _) _⟩

section
variable {P : Program} {w w0 : World} {m : List Blk}
theorem resultsCTT {fn : Func} {p q r b : Nat} {ty t : TypeId} {v : List Value} {c d : Value} (h : Hld w0 m w) (i : Nat) (hf : fn.results = #[.cell p ty, .tmp q, .tmp r]) (tmps : Array Value) (hp : tmps.getD p undef = .pointer (some ⟨b, 0, none⟩)) (hq : tmps.getD q undef = c) (hr : tmps.getD r undef = d) (hi : m[i]? = some ⟨b, t, v⟩) (hrow : TyRow P ty v.length) :
    (results fn tmps).run P w = .ok (.tuple #[.agg v.toArray, c, d]) w := by
  obtain ⟨k, hu, hd, hs⟩ := hrow
  have hp' : tmps[p]?.getD undef = .pointer (some ⟨b, 0, none⟩) := by simpa using hp
  have hq' : tmps[q]?.getD undef = c := by simpa using hq
  have hr' : tmps[r]?.getD undef = d := by simpa using hr
  simp [results, hf, hp', hq', hr', asAddr, run_loadVar_mid w b 0 ty v k (h.range i hi (Part.all v)) hu hd hs]
end
theorem zero_cel : (Tryd.prog.info? 50).map (fun i => (i.zero, i.size)) = some (some (.agg ([.string ⟨#[]⟩, .string ⟨#[]⟩] : List Value).toArray), ([.string ⟨#[]⟩, .string ⟨#[]⟩] : List Value).length) := by kernel_rfl
theorem single_cel (A D : ByteArray) : Hold.Single [.string A, .string D] := by
  unfold Hold.Single
  simp [Value.oneCell']

set_option maxHeartbeats 3200000 in
theorem first_yes (s : ByteArray) (a r b q : List UInt8) (A D Q : ByteArray) (w : World) (h1 : cutT s.data.toList = some (a, r)) (h2 : cutT r = some (b, q)) (hA : A = tx a) (hD : D = tx b) (hQ : Q = tx q) (hs : s.size ≤ 1000000000) :
    Calls Tryd.prog 43 #[.string s] w fun e w' => e = .returned (.tuple #[.agg #[.string A, .string D], .string Q, .bool true]) ∧ Below w.heap.size w w' := by
  have hrl := cut_less _ _ _ h1
  obtain ⟨R, hR⟩ : ∃ R, R = tx r := ⟨_, rfl⟩
  have hRs : R.size ≤ 1000000000 := by rw [hR, tx_size]; have : s.data.toList.length = s.size := rfl; omega
  have RA := Lib.hid (fun u => sized_any s A R true u (by rw [h1, hA]; rfl) (by rw [h1, hR]; rfl) (by rw [h1]; rfl) hs)
  have RB := Lib.hid (fun u => sized_any R D Q true u (by rw [hR, tx_list, h2, hD]; rfl) (by rw [hR, tx_list, h2, hQ]; rfl) (by rw [hR, tx_list, h2]; rfl) hRs)
  have hbd : Tryd.prog.built 50 [(0, .string A), (1, .string D)] = some #[.string A, .string D] := by kernel_rfl
  clear h1 h2 hA hD hQ hR hrl hRs
  have HM := Lib.hid (Hld.start w)
  go_enter Tryd.func43, Tryd.ntmps43
  go_wp2_with ((first
    | (with_reducible refine Hold.alloc HM.out rfl rfl [.string ⟨#[]⟩, .string ⟨#[]⟩] zero_cel ?_; clear HM; intro b w HM; simp only [List.nil_append] at HM; replace HM := Lib.hid HM)
    | (refine Hold.store HM.out 0 (cs := [.string A, .string D]) (v' := [.string A, .string D]) rfl rfl rfl rfl rfl (by simp) (lay_all rfl) (single_cel A D) Cel.celRow ?_; clear HM; intro w HM; simp only [List.set_cons_zero] at HM; replace HM := Lib.hid HM)
    | (with_reducible (refine (RA.out _).mono ?_; rintro e w ⟨rfl, hb⟩; replace HM := Lib.hid (HM.out.next hb); clear hb))
    | (with_reducible (refine (RB.out _).mono ?_; rintro e w ⟨rfl, hb⟩; replace HM := Lib.hid (HM.out.next hb); clear hb))))
  refine bodyPost_ret (resultsCTT HM.out 0 rfl _ rfl rfl rfl rfl Cel.celRow) rfl ?_
  exact ⟨rfl, HM.out.below⟩

set_option maxHeartbeats 3200000 in
theorem first_half (s : ByteArray) (a r : List UInt8) (A : ByteArray) (w : World) (h1 : cutT s.data.toList = some (a, r)) (h2 : cutT r = none) (hA : A = tx a) (hs : s.size ≤ 1000000000) :
    Calls Tryd.prog 43 #[.string s] w fun e w' => e = .returned (.tuple #[.agg #[.string A, .string ⟨#[]⟩], .string ⟨#[]⟩, .bool false]) ∧ Below w.heap.size w w' := by
  have hrl := cut_less _ _ _ h1
  obtain ⟨R, hR⟩ : ∃ R, R = tx r := ⟨_, rfl⟩
  obtain ⟨D, hD⟩ : ∃ D : ByteArray, D = ⟨#[]⟩ := ⟨_, rfl⟩
  have hRs : R.size ≤ 1000000000 := by rw [hR, tx_size]; have : s.data.toList.length = s.size := rfl; omega
  have RA := Lib.hid (fun u => sized_any s A R true u (by rw [h1, hA]; rfl) (by rw [h1, hR]; rfl) (by rw [h1]; rfl) hs)
  have RB := Lib.hid (fun u => sized_any R D ⟨#[]⟩ false u (by rw [hR, tx_list, h2, hD]; rfl) (by rw [hR, tx_list, h2]; rfl) (by rw [hR, tx_list, h2]; rfl) hRs)
  have hbd : Tryd.prog.built 50 [(0, .string A), (1, .string D)] = some #[.string A, .string D] := by kernel_rfl
  have HDD := Lib.hid hD
  clear h1 h2 hA hD hR hrl hRs
  have HM := Lib.hid (Hld.start w)
  go_enter Tryd.func43, Tryd.ntmps43
  go_wp2_with ((first
    | (with_reducible refine Hold.alloc HM.out rfl rfl [.string ⟨#[]⟩, .string ⟨#[]⟩] zero_cel ?_; clear HM; intro b w HM; simp only [List.nil_append] at HM; replace HM := Lib.hid HM)
    | (refine Hold.store HM.out 0 (cs := [.string A, .string D]) (v' := [.string A, .string D]) rfl rfl rfl rfl rfl (by simp) (lay_all rfl) (single_cel A D) Cel.celRow ?_; clear HM; intro w HM; simp only [List.set_cons_zero] at HM; replace HM := Lib.hid HM)
    | (with_reducible (refine (RA.out _).mono ?_; rintro e w ⟨rfl, hb⟩; replace HM := Lib.hid (HM.out.next hb); clear hb))
    | (with_reducible (refine (RB.out _).mono ?_; rintro e w ⟨rfl, hb⟩; replace HM := Lib.hid (HM.out.next hb); clear hb))))
  refine bodyPost_ret (resultsCTT HM.out 0 rfl _ rfl rfl rfl rfl Cel.celRow) rfl ?_
  have hdd := HDD.out
  subst hdd
  exact ⟨rfl, HM.out.below⟩

set_option maxHeartbeats 3200000 in
theorem first_no (s : ByteArray) (w : World) (h1 : cutT s.data.toList = none) (hs : s.size ≤ 1000000000) :
    Calls Tryd.prog 43 #[.string s] w fun e w' => e = .returned (.tuple #[.agg #[.string ⟨#[]⟩, .string ⟨#[]⟩], .string ⟨#[]⟩, .bool false]) ∧ Below w.heap.size w w' := by
  have RA := Lib.hid (fun u => sized_any s ⟨#[]⟩ ⟨#[]⟩ false u (by rw [h1]; rfl) (by rw [h1]; rfl) (by rw [h1]; rfl) hs)
  have hbd : Tryd.prog.built 50 [] = some #[.string ⟨#[]⟩, .string ⟨#[]⟩] := by kernel_rfl
  clear h1
  have HM := Lib.hid (Hld.start w)
  go_enter Tryd.func43, Tryd.ntmps43
  go_wp2_with ((first
    | (with_reducible refine Hold.alloc HM.out rfl rfl [.string ⟨#[]⟩, .string ⟨#[]⟩] zero_cel ?_; clear HM; intro b w HM; simp only [List.nil_append] at HM; replace HM := Lib.hid HM)
    | (refine Hold.store HM.out 0 (cs := [.string ⟨#[]⟩, .string ⟨#[]⟩]) (v' := [.string ⟨#[]⟩, .string ⟨#[]⟩]) rfl rfl rfl rfl rfl (by simp) (lay_all rfl) (single_cel _ _) Cel.celRow ?_; clear HM; intro w HM; simp only [List.set_cons_zero] at HM; replace HM := Lib.hid HM)
    | (with_reducible (refine (RA.out _).mono ?_; rintro e w ⟨rfl, hb⟩; replace HM := Lib.hid (HM.out.next hb); clear hb))))
  refine bodyPost_ret (resultsCTT HM.out 0 rfl _ rfl rfl rfl rfl Cel.celRow) rfl ?_
  exact ⟨rfl, HM.out.below⟩
end Go.Proofs.YtpamdpfgcbadhaaDoor.Tape
