/-
  The document's own answers for names (Dec, joined, PadName, PermName, MaskName, SigName, Member, Pseudonym) and for bytes that fit (Fit) of layer 15 are what the plain mathematics of the text Tap says; all memory that was there is left as it was. Conditions: numbers fit; texts have at most 10^9 bytes.
-/
import Derived.Test.YtpamdpfgcbadhaaDoorCel
import Derived.Deep.Cut
namespace Go.Proofs.YtpamdpfgcbadhaaDoor.RTap
open Go.RowKit Mur Prt Tap Cel
set_option maxRecDepth 100000
set_option linter.unusedSimpArgs false

theorem bytes_conv (w : World) (l : List UInt8) (n : Nat) (hn : n = l.length) : (convert 51 9 (.slice (some ⟨w.heap.size, 0, none⟩) n n)).run Tryd.prog (w.alloc (.cells (bytesV l).toArray 5)) = .ok (.string (tx l)) (w.alloc (.cells (bytesV l).toArray 5)) :=
  string_row (Whole.made w 5 (bytesV l)).row 51 5 9 Tryd.underlying51 Tryd.underlying5 Tryd.underlying9 n n hn
theorem one_conv (w : World) (c : Nat) (h : c < 256) (z : Int) (hz : z = (c : Int)) : (convert 51 9 (.slice (some ⟨w.heap.size, 0, none⟩) 1 1)).run Tryd.prog (w.alloc (.cells #[.int .u8 z] 5)) = .ok (.string (tx [UInt8.ofNat c])) (w.alloc (.cells #[.int .u8 z] 5)) := by
  have := bytes_conv w [UInt8.ofNat c] 1 rfl
  have e : bytesV [UInt8.ofNat c] = [.int .u8 z] := by
    show [Value.int .u8 ((UInt8.ofNat c).toNat : Int)] = _
    rw [UInt8.toNat_ofNat', Nat.mod_eq_of_lt h, hz]
  rw [e] at this
  exact this
theorem dec_long (n : Nat) (h : n ≤ 9223372036854775807) : (digits n).length ≤ 19 := digits_long n 18 (Nat.lt_of_le_of_lt h (by decide))
theorem digits_step (m : Nat) (o : ByteArray) (X : ByteArray) (hX : tx (digits m) ++ o = X) : (m / 10 ≠ 0 → tx (digits (m / 10)) ++ (tx [UInt8.ofNat (48 + m % 10)] ++ o) = X) ∧ (m / 10 = 0 → tx [UInt8.ofNat (48 + m % 10)] ++ o = X) := by
  constructor
  · intro h2
    rw [← hX, digits_high m (by omega), ← tx_append, ByteArray.append_assoc]
  · intro h2
    have h3 : m < 10 := by omega
    rw [← hX, digits_low m h3, Nat.mod_eq_of_lt h3]

set_option maxHeartbeats 1600000 in
theorem dec_any (n : Int) (X : ByteArray) (w : World) (hX : X = tx (dec n)) (h1 : -9223372036854775808 ≤ n) (h2 : n ≤ 9223372036854775807) :
    Calls Tryd.prog 17 #[.int .i64 n] w fun e w' => e = .returned (.string X) ∧ Below w.heap.size w w' := by
  by_cases hn : n < 1
  · obtain rfl : X = ⟨#[48]⟩ := by rw [hX, dec, if_pos hn]
    have hd : decide (n < 1) = true := decide_eq_true hn
    clear hX hn
    go_enter Tryd.func17, Tryd.ntmps17
    go_wp2
    go_ret
    exact ⟨rfl, Below.refl _ _⟩
  have hd : decide (n < 1) = false := decide_eq_false hn
  obtain ⟨N, rfl⟩ : ∃ N : Nat, n = N := ⟨n.toNat, by omega⟩
  have hXd : X = tx (digits N) := by rw [hX, dec_nat]
  have hXs : X.size ≤ 19 := by rw [hXd, tx_size]; exact dec_long N (by omega)
  have HX := Lib.hid (And.intro hXd hXs)
  clear hX hXd hXs
  go_enter Tryd.func17, Tryd.ntmps17
  go_wp2
  go_loopw [0, 3] (fun nv ov wr => ∃ (m : Nat) (o : ByteArray), nv = .int .i64 m ∧ ov = .string o ∧ m ≤ N ∧ o.size ≤ 19 ∧ (m = 0 → o = X) ∧ (m ≠ 0 → tx (digits m) ++ o = X) ∧ Below w.heap.size w wr) (fun nv _ _ => (intOf nv).toNat)
  case atStart => exact ⟨N, ⟨#[]⟩, rfl, rfl, Nat.le_refl _, by simp [ByteArray.size], fun h => by omega, fun _ => by rw [HX.out.1]; exact ByteArray.append_empty, Below.refl _ _⟩
  case round =>
    obtain ⟨m, o, rfl, rfl, hm, hos, h0, h1', hb⟩ := hrel
    have HB := Lib.hid hb
    have HR := Lib.hid (And.intro h0 h1')
    clear hb h0 h1'
    by_cases hz : m = 0
    · subst hz
      obtain rfl : o = X := HR.out.1 rfl
      have hd2 : decide (0 < ((0 : Nat) : Int)) = false := by decide
      go_wp2
      go_ret
      exact ⟨rfl, HB.out⟩
    · have hd2 : decide (0 < (m : Int)) = true := decide_eq_true (by omega)
      obtain ⟨D, hD⟩ : ∃ D, D = tx [UInt8.ofNat (48 + m % 10)] := ⟨_, rfl⟩
      have hcv := one_conv wr (48 + m % 10) (by omega) (48 + (m : Int) % 10) (by omega)
      rw [← hD] at hcv
      have hDs : D.size = 1 := by rw [hD, tx_size]; rfl
      have hap : ¬ 9223372036854775807 < D.size + o.size := by omega
      have HST := Lib.hid (digits_step m o X (HR.out.2 hz))
      rw [← hD] at HST
      have HBN := Lib.hid (HB.out.alloc HB.out.size (.cells #[.int .u8 (48 + (m : Int) % 10)] 5))
      have HDS := Lib.hid hDs
      clear hD hDs
      go_wp2
      go_roundw
      case rel =>
        refine ⟨m / 10, D ++ o, by go_num, rfl, by omega, ?_, HST.out.2, HST.out.1, HBN.out⟩
        by_cases h0 : m / 10 = 0
        · rw [HST.out.2 h0]
          exact HX.out.2
        · have := congrArg ByteArray.size (HST.out.1 h0)
          have := HX.out.2
          simp only [ByteArray.size_append] at *
          omega
      case measure => simp [intOf]; omega
theorem dec_size (n : Int) (h : n ≤ 9223372036854775807) : (dec n).length ≤ 19 := by
  unfold dec
  split
  · decide
  · exact dec_long _ (by omega)
/-- Numbers in a row that was made. -/
def RowI (w : World) (b : Nat) (l : List Int) : Prop := b < w.heap.size ∧ ∀ i x, l[i]? = some x → w.cell? ⟨b, i, none⟩ = some (.int .i64 x)

set_option maxHeartbeats 1600000 in
theorem joined_any (word : ByteArray) (l : List Int) (n b c : Nat) (X : ByteArray) (w : World) (hX : X = tx (joined word.data.toList l)) (hr : RowI w b l) (hn : l.length = n) (hn2 : n ≤ 10) (hs : word.size ≤ 1000000000000000) (hl : ∀ x ∈ l, -9223372036854775808 ≤ x ∧ x ≤ 9223372036854775807) :
    Calls Tryd.prog 39 #[.string word, .slice (some ⟨b, 0, none⟩) n c] w fun e w' => e = .returned (.string X) ∧ Below w.heap.size w w' := by
  have HX := Lib.hid hX
  have HR := Lib.hid hr
  have HN := Lib.hid hn
  have HL := Lib.hid hl
  clear hX hr hn hl
  go_enter Tryd.func39, Tryd.ntmps39
  go_wp2
  go_loopw [0, 9] (fun o i wr => ∃ (j : Nat) (t : ByteArray), j ≤ n ∧ o = .string t ∧ i = .int .i64 j ∧ t.size ≤ 1000000000000000 + 20 * j ∧ tx (joined t.data.toList (l.drop j)) = X ∧ Below w.heap.size w wr) (fun _ i _ => n - (intOf i).toNat)
  case atStart => exact ⟨0, word, by omega, rfl, rfl, by omega, HX.out.symm, Below.refl _ _⟩
  case round =>
    obtain ⟨j, t, hj, rfl, rfl, hts, hjo, hb⟩ := hrel
    have HB := Lib.hid hb
    have HJ := Lib.hid hjo
    clear hb hjo
    obtain ⟨hbb, hc⟩ := HR.out
    by_cases hlt : j < n
    · have hjl : j < l.length := by have := HN.out; omega
      obtain ⟨x, hx⟩ : ∃ x, l[j]? = some x := ⟨_, List.getElem?_eq_getElem hjl⟩
      have hdrop : l.drop j = x :: l.drop (j + 1) := by
        rw [List.drop_eq_getElem_cons hjl]
        exact congrArg (fun y => y :: l.drop (j + 1)) (Option.some.inj ((List.getElem?_eq_getElem hjl).symm.trans hx))
      have c1 : wr.cell? ⟨b, j, none⟩ = some (.int .i64 x) := (HB.out.cell (p := ⟨b, j, none⟩) hbb).trans (hc j x hx)
      have hxr := HL.out x (List.mem_of_getElem? hx)
      obtain ⟨D, hD⟩ : ∃ D, D = tx (dec x) := ⟨_, rfl⟩
      have hDs : D.size ≤ 19 := by rw [hD, tx_size]; exact dec_size x hxr.2
      have R1 := Lib.hid (fun u => dec_any x D u hD hxr.1 hxr.2)
      have hnx : tx (joined (t ++ (⟨#[32]⟩ ++ D)).data.toList (l.drop (j + 1))) = X := by
        rw [← HJ.out, hdrop, hD]
        show tx _ = tx _
        congr 1
        show joined ((t ++ (tx [32] ++ tx (dec x))).data.toList) _ = t.data.toList ++ 32 :: (dec x ++ tail (l.drop (j + 1)))
        rw [show (t ++ (tx [32] ++ tx (dec x))) = tx (t.data.toList ++ ([32] ++ dec x)) from by rw [tx_append, ← Cel.tx_data t, tx_append]]
        show (t.data.toList ++ ([32] ++ dec x)) ++ tail (l.drop (j + 1)) = _
        simp
      have HNX := Lib.hid hnx
      have g1 : ¬ 9223372036854775807 < (⟨#[32]⟩ : ByteArray).size + D.size := by
        show ¬ 9223372036854775807 < 1 + D.size
        omega
      have g2 : ¬ 9223372036854775807 < t.size + ((⟨#[32]⟩ : ByteArray) ++ D).size := by
        rw [ByteArray.size_append]
        show ¬ 9223372036854775807 < t.size + (1 + D.size)
        omega
      have HDS := Lib.hid hDs
      clear hx hdrop hc hbb hjl hD hnx hxr hDs
      go_wp2_with ((with_reducible (refine (R1.out _).mono ?_; rintro e w2 ⟨rfl, hb2⟩; have HB2 := Lib.hid (HB.out.trans (hb2.mono HB.out.size)); clear hb2 c1)))
      go_roundw
      case rel =>
        refine ⟨j + 1, t ++ (⟨#[32]⟩ ++ D), by omega, rfl, by go_num, ?_, HNX.out, HB2.out⟩
        rw [ByteArray.size_append, ByteArray.size_append]
        show t.size + (1 + D.size) ≤ _
        have := HDS.out
        omega
      case measure => simp [intOf]; omega
    · obtain rfl : j = n := by omega
      have hlt2 : ¬ ((j : Int) < (j : Int)) := by omega
      obtain rfl : t = X := by
        have := HJ.out
        rw [List.drop_eq_nil_of_le (Nat.le_of_eq HN.out)] at this
        rw [← this]
        show t = tx (t.data.toList ++ [])
        rw [List.append_nil, Cel.tx_data]
      clear hc hbb
      go_wp2
      go_ret
      exact ⟨rfl, HB.out⟩
theorem joined_new (word : ByteArray) (l : List Int) (n : Nat) (X : ByteArray) (w : World) (hX : X = tx (joined word.data.toList l)) (hn : l.length = n) (hn2 : n ≤ 10) (hs : word.size ≤ 1000000000000000) (hl : ∀ x ∈ l, -9223372036854775808 ≤ x ∧ x ≤ 9223372036854775807) :
    Calls Tryd.prog 39 #[.string word, .slice (some ⟨w.heap.size, 0, none⟩) n n] (w.alloc (.cells (l.map (Value.int .i64)).toArray 3)) fun e w' => e = .returned (.string X) ∧ Below w.heap.size w w' := by
  refine (joined_any word l n w.heap.size n X _ hX ⟨by simp, fun i x hx => ?_⟩ hn hn2 hs hl).mono ?_
  · exact (Whole.made w 3 (l.map (Value.int .i64))).row.cell (by rw [List.getElem?_map, hx]; rfl)
  · rintro e w' ⟨he, hb⟩
    exact ⟨he, ((Below.refl w.heap.size w).alloc (Nat.le_refl _) _).trans (hb.mono (by simp))⟩

theorem padName_any (a b c d : Int) (X : ByteArray) (w : World) (hX : X = tx (joined [112, 97, 100] [a, b, c, d])) (al : -9223372036854775808 ≤ a) (ah : a ≤ 9223372036854775807) (bl : -9223372036854775808 ≤ b) (bh : b ≤ 9223372036854775807) (cl : -9223372036854775808 ≤ c) (ch : c ≤ 9223372036854775807) (dl : -9223372036854775808 ≤ d) (dh : d ≤ 9223372036854775807) :
    Calls Tryd.prog 19 #[.int .i64 a, .int .i64 b, .int .i64 c, .int .i64 d] w fun e w' => e = .returned (.string X) ∧ Below w.heap.size w w' := by
  have hl : ∀ x ∈ [a, b, c, d], -9223372036854775808 ≤ x ∧ x ≤ 9223372036854775807 := by
    intro x hx
    simp only [List.mem_cons, List.not_mem_nil, or_false] at hx
    rcases hx with rfl | rfl | rfl | rfl
    · exact ⟨al, ah⟩
    · exact ⟨bl, bh⟩
    · exact ⟨cl, ch⟩
    · exact ⟨dl, dh⟩
  have RJ := Lib.hid (show Calls Tryd.prog 39 #[.string ⟨#[112, 97, 100]⟩, .slice (some ⟨w.heap.size, 0, none⟩) 4 4] (w.alloc (.cells #[.int .i64 a, .int .i64 b, .int .i64 c, .int .i64 d] 3)) _ from joined_new ⟨#[112, 97, 100]⟩ [a, b, c, d] 4 X w hX rfl (by decide) (by decide) hl)
  clear hX hl
  go_enter Tryd.func19, Tryd.ntmps19
  go_wp2_with ((with_reducible (refine RJ.out.mono ?_; rintro e w2 ⟨rfl, hb2⟩; have HB := Lib.hid hb2; clear hb2)))
  go_ret
  exact ⟨rfl, HB.out⟩

theorem permName_any (a : Int) (X : ByteArray) (w : World) (hX : X = tx (joined [112, 101, 114, 109] [a])) (al : -9223372036854775808 ≤ a) (ah : a ≤ 9223372036854775807) :
    Calls Tryd.prog 21 #[.int .i64 a] w fun e w' => e = .returned (.string X) ∧ Below w.heap.size w w' := by
  have hl : ∀ x ∈ [a], -9223372036854775808 ≤ x ∧ x ≤ 9223372036854775807 := by
    intro x hx
    simp only [List.mem_cons, List.not_mem_nil, or_false] at hx
    subst hx
    exact ⟨al, ah⟩
  have RJ := Lib.hid (show Calls Tryd.prog 39 #[.string ⟨#[112, 101, 114, 109]⟩, .slice (some ⟨w.heap.size, 0, none⟩) 1 1] (w.alloc (.cells #[.int .i64 a] 3)) _ from joined_new ⟨#[112, 101, 114, 109]⟩ [a] 1 X w hX rfl (by decide) (by decide) hl)
  clear hX hl
  go_enter Tryd.func21, Tryd.ntmps21
  go_wp2_with ((with_reducible (refine RJ.out.mono ?_; rintro e w2 ⟨rfl, hb2⟩; have HB := Lib.hid hb2; clear hb2)))
  go_ret
  exact ⟨rfl, HB.out⟩

theorem maskName_any (a b c : Int) (X : ByteArray) (w : World) (hX : X = tx (joined [109, 97, 115, 107] [a, b, c])) (al : -9223372036854775808 ≤ a) (ah : a ≤ 9223372036854775807) (bl : -9223372036854775808 ≤ b) (bh : b ≤ 9223372036854775807) (cl : -9223372036854775808 ≤ c) (ch : c ≤ 9223372036854775807) :
    Calls Tryd.prog 23 #[.int .i64 a, .int .i64 b, .int .i64 c] w fun e w' => e = .returned (.string X) ∧ Below w.heap.size w w' := by
  have hl : ∀ x ∈ [a, b, c], -9223372036854775808 ≤ x ∧ x ≤ 9223372036854775807 := by
    intro x hx
    simp only [List.mem_cons, List.not_mem_nil, or_false] at hx
    rcases hx with rfl | rfl | rfl
    · exact ⟨al, ah⟩
    · exact ⟨bl, bh⟩
    · exact ⟨cl, ch⟩
  have RJ := Lib.hid (show Calls Tryd.prog 39 #[.string ⟨#[109, 97, 115, 107]⟩, .slice (some ⟨w.heap.size, 0, none⟩) 3 3] (w.alloc (.cells #[.int .i64 a, .int .i64 b, .int .i64 c] 3)) _ from joined_new ⟨#[109, 97, 115, 107]⟩ [a, b, c] 3 X w hX rfl (by decide) (by decide) hl)
  clear hX hl
  go_enter Tryd.func23, Tryd.ntmps23
  go_wp2_with ((with_reducible (refine RJ.out.mono ?_; rintro e w2 ⟨rfl, hb2⟩; have HB := Lib.hid hb2; clear hb2)))
  go_ret
  exact ⟨rfl, HB.out⟩

theorem member_any (a : Int) (X : ByteArray) (w : World) (hX : X = tx (joined [109] [a])) (al : -9223372036854775808 ≤ a) (ah : a ≤ 9223372036854775807) :
    Calls Tryd.prog 27 #[.int .i64 a] w fun e w' => e = .returned (.string X) ∧ Below w.heap.size w w' := by
  have hl : ∀ x ∈ [a], -9223372036854775808 ≤ x ∧ x ≤ 9223372036854775807 := by
    intro x hx
    simp only [List.mem_cons, List.not_mem_nil, or_false] at hx
    subst hx
    exact ⟨al, ah⟩
  have RJ := Lib.hid (show Calls Tryd.prog 39 #[.string ⟨#[109]⟩, .slice (some ⟨w.heap.size, 0, none⟩) 1 1] (w.alloc (.cells #[.int .i64 a] 3)) _ from joined_new ⟨#[109]⟩ [a] 1 X w hX rfl (by decide) (by decide) hl)
  clear hX hl
  go_enter Tryd.func27, Tryd.ntmps27
  go_wp2_with ((with_reducible (refine RJ.out.mono ?_; rintro e w2 ⟨rfl, hb2⟩; have HB := Lib.hid hb2; clear hb2)))
  go_ret
  exact ⟨rfl, HB.out⟩

theorem pseudonym_any (a b : Int) (X : ByteArray) (w : World) (hX : X = tx (joined [112] [a, b])) (al : -9223372036854775808 ≤ a) (ah : a ≤ 9223372036854775807) (bl : -9223372036854775808 ≤ b) (bh : b ≤ 9223372036854775807) :
    Calls Tryd.prog 29 #[.int .i64 a, .int .i64 b] w fun e w' => e = .returned (.string X) ∧ Below w.heap.size w w' := by
  have hl : ∀ x ∈ [a, b], -9223372036854775808 ≤ x ∧ x ≤ 9223372036854775807 := by
    intro x hx
    simp only [List.mem_cons, List.not_mem_nil, or_false] at hx
    rcases hx with rfl | rfl
    · exact ⟨al, ah⟩
    · exact ⟨bl, bh⟩
  have RJ := Lib.hid (show Calls Tryd.prog 39 #[.string ⟨#[112]⟩, .slice (some ⟨w.heap.size, 0, none⟩) 2 2] (w.alloc (.cells #[.int .i64 a, .int .i64 b] 3)) _ from joined_new ⟨#[112]⟩ [a, b] 2 X w hX rfl (by decide) (by decide) hl)
  clear hX hl
  go_enter Tryd.func29, Tryd.ntmps29
  go_wp2_with ((with_reducible (refine RJ.out.mono ?_; rintro e w2 ⟨rfl, hb2⟩; have HB := Lib.hid hb2; clear hb2)))
  go_ret
  exact ⟨rfl, HB.out⟩

theorem sigName_any (who : ByteArray) (a : Int) (X : ByteArray) (w : World) (hX : X = tx (joined ([115, 105, 103, 32] ++ who.data.toList) [a])) (al : -9223372036854775808 ≤ a) (ah : a ≤ 9223372036854775807) (hs : who.size ≤ 900000000000000) :
    Calls Tryd.prog 25 #[.string who, .int .i64 a] w fun e w' => e = .returned (.string X) ∧ Below w.heap.size w w' := by
  obtain ⟨W, hW⟩ : ∃ W, W = (⟨#[115, 105, 103, 32]⟩ : ByteArray) ++ who := ⟨_, rfl⟩
  have hWs : W.size ≤ 1000000000000000 := by
    rw [hW, ByteArray.size_append]
    show 4 + who.size ≤ _
    omega
  have hWl : W.data.toList = [115, 105, 103, 32] ++ who.data.toList := by
    have : W = tx ([115, 105, 103, 32] ++ who.data.toList) := by rw [hW, ← tx_append, Cel.tx_data]
    rw [this]
  have hl : ∀ x ∈ [a], -9223372036854775808 ≤ x ∧ x ≤ 9223372036854775807 := by
    intro x hx
    simp only [List.mem_cons, List.not_mem_nil, or_false] at hx
    subst hx
    exact ⟨al, ah⟩
  have RJ := Lib.hid (show Calls Tryd.prog 39 #[.string W, .slice (some ⟨w.heap.size, 0, none⟩) 1 1] (w.alloc (.cells #[.int .i64 a] 3)) _ from joined_new W [a] 1 X w (by rw [hWl]; exact hX) rfl (by decide) hWs hl)
  have hap : (⟨#[115, 105, 103, 32]⟩ : ByteArray) ++ who = W := hW.symm
  have hbig : ¬ 9223372036854775807 < (⟨#[115, 105, 103, 32]⟩ : ByteArray).size + who.size := by
    show ¬ 9223372036854775807 < 4 + who.size
    omega
  clear hX hl hW hWs hWl
  go_enter Tryd.func25, Tryd.ntmps25
  go_wp2_with ((with_reducible (refine RJ.out.mono ?_; rintro e w2 ⟨rfl, hb2⟩; have HB := Lib.hid hb2; clear hb2)))
  go_ret
  exact ⟨rfl, HB.out⟩

theorem made_any (w : World) (v : Value) (e : TypeId) (n : Nat) : Row (w.alloc (.cells (madeCells #[v] n) e)) w.heap.size (List.replicate n v) := by
  refine ⟨by simp, fun i u hu => ⟨?_, by simp⟩⟩
  rw [World.cell?_alloc_new]
  rw [← toList_madeCells_one] at hu
  simpa using hu
theorem info_u8 : (Tryd.prog.info? 5).map (fun i => (i.zero, i.size, i.bytes)) = some (some (.int .u8 0), 1, 1) := by kernel_rfl
theorem make_u8 (w : World) (n : Nat) (hn : n ≤ 281474976710656) : (Instr.makeSlice 51 (.int .i64 (n : Int)) (.int .i64 (n : Int))).run Tryd.prog w =
    .ok (.slice (some ⟨w.heap.size, 0, none⟩) n n) (w.alloc (.cells (madeCells #[.int .u8 0] n) 5)) := by
  obtain ⟨i0, hi, hz0, hz1, hz2⟩ := info_parts info_u8
  have h := run_make (P := Tryd.prog) w 51 5 i0 (.int .u8 0) Tryd.underlying51 hi hz0 .i64 .i64 (n : Int) (n : Int) (by omega) (Int.le_refl _) (by rw [hz2]; omega) (by omega)
  simpa [hz1, Value.cells] using h
theorem zeros_conv (w : World) (m : Nat) : (convert 51 9 (.slice (some ⟨w.heap.size, 0, none⟩) m m)).run Tryd.prog (w.alloc (.cells (madeCells #[.int .u8 0] m) 5)) = .ok (.string (tx (List.replicate m 0))) (w.alloc (.cells (madeCells #[.int .u8 0] m) 5)) := by
  have hr := made_any w (.int .u8 0) 5 m
  have e : (List.replicate m (Value.int .u8 0)) = bytesV (List.replicate m 0) := by
    rw [bytesV, List.map_replicate]
    rfl
  rw [e] at hr
  exact string_row hr 51 5 9 Tryd.underlying51 Tryd.underlying5 Tryd.underlying9 m m (by simp)
theorem piece_tx (s : ByteArray) (m : Nat) : s.extract 0 m = tx (s.data.toList.take m) := by
  apply ByteArray.ext
  rw [ByteArray.data_extract]
  apply Array.ext'
  simp

set_option maxHeartbeats 800000 in
theorem fit_any (s : ByteArray) (n : Int) (X : ByteArray) (w : World) (hX : X = tx (fit s.data.toList n)) (hs : s.size ≤ 1000000000) :
    Calls Tryd.prog 15 #[.string s, .int .i64 n] w fun e w' => e = .returned (.string X) ∧ Below w.heap.size w w' := by
  obtain ⟨m, hm⟩ : ∃ m : Nat, max 0 (min n 6000) = (m : Int) := ⟨(max 0 (min n 6000)).toNat, by omega⟩
  have hm2 : m ≤ 6000 := by omega
  obtain ⟨Z, hZ⟩ : ∃ Z, Z = tx (List.replicate m 0) := ⟨_, rfl⟩
  have hZs : Z.size = m := by rw [hZ, tx_size, List.length_replicate]
  have hmk : ∀ u, (Instr.makeSlice 51 (.int .i64 (m : Int)) (.int .i64 (m : Int))).run Tryd.prog u = .ok (.slice (some ⟨u.heap.size, 0, none⟩) m m) (u.alloc (.cells (madeCells #[.int .u8 0] m) 5)) := fun u => make_u8 u m (by omega)
  have hcv : ∀ u : World, (convert 51 9 (.slice (some ⟨u.heap.size, 0, none⟩) m m)).run Tryd.prog (u.alloc (.cells (madeCells #[.int .u8 0] m) 5)) = .ok (.string Z) (u.alloc (.cells (madeCells #[.int .u8 0] m) 5)) := fun u => by rw [hZ]; exact zeros_conv u m
  obtain ⟨S, hS⟩ : ∃ S, s ++ Z = S := ⟨_, rfl⟩
  have hSs : m ≤ S.size := by rw [← hS, ByteArray.size_append]; omega
  have hXe : S.extract 0 m = X := by
    rw [hX, ← hS, piece_tx, hZ]
    show tx (((s ++ tx (List.replicate m 0)).data.toList).take m) = tx ((s.data.toList ++ List.replicate (max 0 (min n 6000)).toNat 0).take (max 0 (min n 6000)).toNat)
    have e1 : (max 0 (min n 6000)).toNat = m := by omega
    have e2 : (s ++ tx (List.replicate m 0)) = tx (s.data.toList ++ List.replicate m 0) := by rw [← tx_append, Cel.tx_data]
    rw [e1, e2]
  have hsl : ∀ u, (Instr.slice 9 (.string S) none (some (.int .i64 (m : Int))) none).run Tryd.prog u = .ok (.string X) u := fun u => by
    rw [← hXe]
    exact run_slice_string_h (P := Tryd.prog) u 9 S Tryd.underlying9 .i64 (m : Int) (by omega) (by omega)
  have hbig : ¬ 9223372036854775807 < s.size + Z.size := by omega
  have HB := Lib.hid ((Below.refl w.heap.size w).alloc (Nat.le_refl _) (.cells (madeCells #[.int .u8 0] m) 5))
  clear hX hZ hZs hSs hXe
  go_enter Tryd.func15, Tryd.ntmps15
  go_wp2
  go_ret
  exact ⟨rfl, HB.out⟩
end Go.Proofs.YtpamdpfgcbadhaaDoor.RTap
