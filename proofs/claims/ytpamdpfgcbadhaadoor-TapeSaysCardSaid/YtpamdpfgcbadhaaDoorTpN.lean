/-
  Names of numbers (named, PadName, PermName, MaskName, Member, Pseudonym, SigName): a word, and digits behind blanks. Condition: the table of powers of ten lies in its variable; words up to 10^15 bytes.
-/
import Derived.Test.YtpamdpfgcbadhaaDoorTpT
namespace Go.Proofs.YtpamdpfgcbadhaaDoor.Tape
open Go.RowKit Mur Prt Lanes Tap Cel RTap
set_option maxRecDepth 100000
set_option linter.unusedSimpArgs false

set_option maxHeartbeats 1600000 in
theorem named_any (word : ByteArray) (l : List Int) (n b c : Nat) (X : ByteArray) (w : World) (hX : X = tx (joined word.data.toList l)) (hr : RowI w b l) (hn : l.length = n) (hn2 : n ≤ 10) (hs : word.size ≤ 1000000000000000) (hl : ∀ x ∈ l, -9223372036854775808 ≤ x ∧ x ≤ 9223372036854775807) (hp : Pow w) :
    Calls Tryd.prog 38 #[.string word, .slice (some ⟨b, 0, none⟩) n c] w fun e w' => e = .returned (.string X) ∧ Below w.heap.size w w' := by
  have HX := Lib.hid hX
  have HR := Lib.hid hr
  have HN := Lib.hid hn
  have HL := Lib.hid hl
  have HP := Lib.hid hp
  clear hX hr hn hl hp
  go_enter Tryd.func38, Tryd.ntmps38
  go_wp2
  go_loopw [0, 9] (fun o i wr => ∃ (j : Nat) (t : ByteArray), j ≤ n ∧ o = .string t ∧ i = .int .i64 j ∧ t.size ≤ 1000000000000000 + 20 * j ∧ tx (joined t.data.toList (l.drop j)) = X ∧ Below w.heap.size w wr) (fun _ i _ => n - (intOf i).toNat)
  case atStart => exact ⟨0, word, by omega, rfl, rfl, by omega, HX.out.symm, Below.refl _ _⟩
  case round =>
    obtain ⟨j, t, hj, rfl, rfl, hts, hjo, hb⟩ := hrel
    have HB := Lib.hid hb
    have HJ := Lib.hid hjo
    clear hb hjo
    obtain ⟨hbb, hc⟩ := HR.out
    by_cases hlt : j < n
    · have hjl : j < l.length := by have := HN.out; omega
      obtain ⟨x, hx⟩ : ∃ x, l[j]? = some x := ⟨_, List.getElem?_eq_getElem hjl⟩
      have hdrop : l.drop j = x :: l.drop (j + 1) := by
        rw [List.drop_eq_getElem_cons hjl]
        exact congrArg (fun y => y :: l.drop (j + 1)) (Option.some.inj ((List.getElem?_eq_getElem hjl).symm.trans hx))
      have c1 : wr.cell? ⟨b, j, none⟩ = some (.int .i64 x) := (HB.out.cell (p := ⟨b, j, none⟩) hbb).trans (hc j x hx)
      have hxr := HL.out x (List.mem_of_getElem? hx)
      obtain ⟨D, hD⟩ : ∃ D, D = tx (dec x) := ⟨_, rfl⟩
      have hDs : D.size ≤ 19 := by rw [hD, tx_size]; exact dec_size x hxr.2
      have R1 := Lib.hid (dec_any x D wr hD hxr.1 hxr.2 (HP.out.below HB.out))
      have hnx : tx (joined (t ++ (⟨#[32]⟩ ++ D)).data.toList (l.drop (j + 1))) = X := by
        rw [← HJ.out, hdrop, hD]
        show tx _ = tx _
        congr 1
        show joined ((t ++ (tx [32] ++ tx (dec x))).data.toList) _ = t.data.toList ++ 32 :: (dec x ++ tail (l.drop (j + 1)))
        rw [show (t ++ (tx [32] ++ tx (dec x))) = tx (t.data.toList ++ ([32] ++ dec x)) from by rw [tx_append, ← Cel.tx_data t, tx_append]]
        show (t.data.toList ++ ([32] ++ dec x)) ++ tail (l.drop (j + 1)) = _
        simp
      have HNX := Lib.hid hnx
      have g1 : ¬ 9223372036854775807 < (⟨#[32]⟩ : ByteArray).size + D.size := by
        show ¬ 9223372036854775807 < 1 + D.size
        omega
      have g2 : ¬ 9223372036854775807 < t.size + ((⟨#[32]⟩ : ByteArray) ++ D).size := by
        rw [ByteArray.size_append]
        show ¬ 9223372036854775807 < t.size + (1 + D.size)
        omega
      have HDS := Lib.hid hDs
      clear hx hdrop hc hbb hjl hD hnx hxr hDs
      go_wp2_with ((with_reducible (refine R1.out.mono ?_; rintro e w2 ⟨rfl, hb2⟩; have HB2 := Lib.hid (HB.out.trans (hb2.mono HB.out.size)); clear hb2 c1)))
      go_roundw
      case rel =>
        refine ⟨j + 1, t ++ (⟨#[32]⟩ ++ D), by omega, rfl, by go_num, ?_, HNX.out, HB2.out⟩
        rw [ByteArray.size_append, ByteArray.size_append]
        show t.size + (1 + D.size) ≤ _
        have := HDS.out
        omega
      case measure => simp [intOf]; omega
    · obtain rfl : j = n := by omega
      have hlt2 : ¬ ((j : Int) < (j : Int)) := by omega
      obtain rfl : t = X := by
        have := HJ.out
        rw [List.drop_eq_nil_of_le (Nat.le_of_eq HN.out)] at this
        rw [← this]
        show t = tx (t.data.toList ++ [])
        rw [List.append_nil, Cel.tx_data]
      clear hc hbb
      go_wp2
      go_ret
      exact ⟨rfl, HB.out⟩

theorem named_new (word : ByteArray) (l : List Int) (n : Nat) (X : ByteArray) (w : World) (hX : X = tx (joined word.data.toList l)) (hn : l.length = n) (hn2 : n ≤ 10) (hs : word.size ≤ 1000000000000000) (hl : ∀ x ∈ l, -9223372036854775808 ≤ x ∧ x ≤ 9223372036854775807) (hp : Pow w) :
    Calls Tryd.prog 38 #[.string word, .slice (some ⟨w.heap.size, 0, none⟩) n n] (w.alloc (.cells (l.map (Value.int .i64)).toArray 3)) fun e w' => e = .returned (.string X) ∧ Below w.heap.size w w' := by
  refine (named_any word l n w.heap.size n X _ hX ⟨by simp, fun i x hx => ?_⟩ hn hn2 hs hl (hp.below ((Below.refl w.heap.size w).alloc (Nat.le_refl _) _))).mono ?_
  · exact (Whole.made w 3 (l.map (Value.int .i64))).row.cell (by rw [List.getElem?_map, hx]; rfl)
  · rintro e w' ⟨he, hb⟩
    exact ⟨he, ((Below.refl w.heap.size w).alloc (Nat.le_refl _) _).trans (hb.mono (by simp))⟩

theorem padName_any (a b c d : Int) (X : ByteArray) (w : World) (hX : X = tx (joined [112, 97, 100] [a, b, c, d])) (al : -9223372036854775808 ≤ a) (ah : a ≤ 9223372036854775807) (bl : -9223372036854775808 ≤ b) (bh : b ≤ 9223372036854775807) (cl : -9223372036854775808 ≤ c) (ch : c ≤ 9223372036854775807) (dl : -9223372036854775808 ≤ d) (dh : d ≤ 9223372036854775807) (hp : Pow w) :
    Calls Tryd.prog 18 #[.int .i64 a, .int .i64 b, .int .i64 c, .int .i64 d] w fun e w' => e = .returned (.string X) ∧ Below w.heap.size w w' := by
  have hl : ∀ x ∈ [a, b, c, d], -9223372036854775808 ≤ x ∧ x ≤ 9223372036854775807 := by
    intro x hx
    simp only [List.mem_cons, List.not_mem_nil, or_false] at hx
    rcases hx with rfl | rfl | rfl | rfl
    · exact ⟨al, ah⟩
    · exact ⟨bl, bh⟩
    · exact ⟨cl, ch⟩
    · exact ⟨dl, dh⟩
  have RJ := Lib.hid (show Calls Tryd.prog 38 #[.string ⟨#[112, 97, 100]⟩, .slice (some ⟨w.heap.size, 0, none⟩) 4 4] (w.alloc (.cells #[.int .i64 a, .int .i64 b, .int .i64 c, .int .i64 d] 3)) _ from named_new ⟨#[112, 97, 100]⟩ [a, b, c, d] 4 X w hX rfl (by decide) (by decide) hl hp)
  clear hX hl hp
  go_enter Tryd.func18, Tryd.ntmps18
  go_wp2_with ((with_reducible (refine RJ.out.mono ?_; rintro e w2 ⟨rfl, hb2⟩; have HB := Lib.hid hb2; clear hb2)))
  go_ret
  exact ⟨rfl, HB.out⟩

theorem permName_any (a : Int) (X : ByteArray) (w : World) (hX : X = tx (joined [112, 101, 114, 109] [a])) (al : -9223372036854775808 ≤ a) (ah : a ≤ 9223372036854775807) (hp : Pow w) :
    Calls Tryd.prog 20 #[.int .i64 a] w fun e w' => e = .returned (.string X) ∧ Below w.heap.size w w' := by
  have hl : ∀ x ∈ [a], -9223372036854775808 ≤ x ∧ x ≤ 9223372036854775807 := by
    intro x hx
    simp only [List.mem_cons, List.not_mem_nil, or_false] at hx
    subst hx
    exact ⟨al, ah⟩
  have RJ := Lib.hid (show Calls Tryd.prog 38 #[.string ⟨#[112, 101, 114, 109]⟩, .slice (some ⟨w.heap.size, 0, none⟩) 1 1] (w.alloc (.cells #[.int .i64 a] 3)) _ from named_new ⟨#[112, 101, 114, 109]⟩ [a] 1 X w hX rfl (by decide) (by decide) hl hp)
  clear hX hl hp
  go_enter Tryd.func20, Tryd.ntmps20
  go_wp2_with ((with_reducible (refine RJ.out.mono ?_; rintro e w2 ⟨rfl, hb2⟩; have HB := Lib.hid hb2; clear hb2)))
  go_ret
  exact ⟨rfl, HB.out⟩

theorem maskName_any (a b c : Int) (X : ByteArray) (w : World) (hX : X = tx (joined [109, 97, 115, 107] [a, b, c])) (al : -9223372036854775808 ≤ a) (ah : a ≤ 9223372036854775807) (bl : -9223372036854775808 ≤ b) (bh : b ≤ 9223372036854775807) (cl : -9223372036854775808 ≤ c) (ch : c ≤ 9223372036854775807) (hp : Pow w) :
    Calls Tryd.prog 22 #[.int .i64 a, .int .i64 b, .int .i64 c] w fun e w' => e = .returned (.string X) ∧ Below w.heap.size w w' := by
  have hl : ∀ x ∈ [a, b, c], -9223372036854775808 ≤ x ∧ x ≤ 9223372036854775807 := by
    intro x hx
    simp only [List.mem_cons, List.not_mem_nil, or_false] at hx
    rcases hx with rfl | rfl | rfl
    · exact ⟨al, ah⟩
    · exact ⟨bl, bh⟩
    · exact ⟨cl, ch⟩
  have RJ := Lib.hid (show Calls Tryd.prog 38 #[.string ⟨#[109, 97, 115, 107]⟩, .slice (some ⟨w.heap.size, 0, none⟩) 3 3] (w.alloc (.cells #[.int .i64 a, .int .i64 b, .int .i64 c] 3)) _ from named_new ⟨#[109, 97, 115, 107]⟩ [a, b, c] 3 X w hX rfl (by decide) (by decide) hl hp)
  clear hX hl hp
  go_enter Tryd.func22, Tryd.ntmps22
  go_wp2_with ((with_reducible (refine RJ.out.mono ?_; rintro e w2 ⟨rfl, hb2⟩; have HB := Lib.hid hb2; clear hb2)))
  go_ret
  exact ⟨rfl, HB.out⟩

theorem member_any (a : Int) (X : ByteArray) (w : World) (hX : X = tx (joined [109] [a])) (al : -9223372036854775808 ≤ a) (ah : a ≤ 9223372036854775807) (hp : Pow w) :
    Calls Tryd.prog 26 #[.int .i64 a] w fun e w' => e = .returned (.string X) ∧ Below w.heap.size w w' := by
  have hl : ∀ x ∈ [a], -9223372036854775808 ≤ x ∧ x ≤ 9223372036854775807 := by
    intro x hx
    simp only [List.mem_cons, List.not_mem_nil, or_false] at hx
    subst hx
    exact ⟨al, ah⟩
  have RJ := Lib.hid (show Calls Tryd.prog 38 #[.string ⟨#[109]⟩, .slice (some ⟨w.heap.size, 0, none⟩) 1 1] (w.alloc (.cells #[.int .i64 a] 3)) _ from named_new ⟨#[109]⟩ [a] 1 X w hX rfl (by decide) (by decide) hl hp)
  clear hX hl hp
  go_enter Tryd.func26, Tryd.ntmps26
  go_wp2_with ((with_reducible (refine RJ.out.mono ?_; rintro e w2 ⟨rfl, hb2⟩; have HB := Lib.hid hb2; clear hb2)))
  go_ret
  exact ⟨rfl, HB.out⟩

theorem pseudonym_any (a b : Int) (X : ByteArray) (w : World) (hX : X = tx (joined [112] [a, b])) (al : -9223372036854775808 ≤ a) (ah : a ≤ 9223372036854775807) (bl : -9223372036854775808 ≤ b) (bh : b ≤ 9223372036854775807) (hp : Pow w) :
    Calls Tryd.prog 28 #[.int .i64 a, .int .i64 b] w fun e w' => e = .returned (.string X) ∧ Below w.heap.size w w' := by
  have hl : ∀ x ∈ [a, b], -9223372036854775808 ≤ x ∧ x ≤ 9223372036854775807 := by
    intro x hx
    simp only [List.mem_cons, List.not_mem_nil, or_false] at hx
    rcases hx with rfl | rfl
    · exact ⟨al, ah⟩
    · exact ⟨bl, bh⟩
  have RJ := Lib.hid (show Calls Tryd.prog 38 #[.string ⟨#[112]⟩, .slice (some ⟨w.heap.size, 0, none⟩) 2 2] (w.alloc (.cells #[.int .i64 a, .int .i64 b] 3)) _ from named_new ⟨#[112]⟩ [a, b] 2 X w hX rfl (by decide) (by decide) hl hp)
  clear hX hl hp
  go_enter Tryd.func28, Tryd.ntmps28
  go_wp2_with ((with_reducible (refine RJ.out.mono ?_; rintro e w2 ⟨rfl, hb2⟩; have HB := Lib.hid hb2; clear hb2)))
  go_ret
  exact ⟨rfl, HB.out⟩

theorem sigName_any (who : ByteArray) (a : Int) (X : ByteArray) (w : World) (hX : X = tx (joined ([115, 105, 103, 32] ++ who.data.toList) [a])) (al : -9223372036854775808 ≤ a) (ah : a ≤ 9223372036854775807) (hs : who.size ≤ 900000000000000) (hp : Pow w) :
    Calls Tryd.prog 24 #[.string who, .int .i64 a] w fun e w' => e = .returned (.string X) ∧ Below w.heap.size w w' := by
  obtain ⟨W, hW⟩ : ∃ W, W = (⟨#[115, 105, 103, 32]⟩ : ByteArray) ++ who := ⟨_, rfl⟩
  have hWs : W.size ≤ 1000000000000000 := by
    rw [hW, ByteArray.size_append]
    show 4 + who.size ≤ _
    omega
  have hWl : W.data.toList = [115, 105, 103, 32] ++ who.data.toList := by
    have : W = tx ([115, 105, 103, 32] ++ who.data.toList) := by rw [hW, ← tx_append, Cel.tx_data]
    rw [this]
  have hl : ∀ x ∈ [a], -9223372036854775808 ≤ x ∧ x ≤ 9223372036854775807 := by
    intro x hx
    simp only [List.mem_cons, List.not_mem_nil, or_false] at hx
    subst hx
    exact ⟨al, ah⟩
  have RJ := Lib.hid (show Calls Tryd.prog 38 #[.string W, .slice (some ⟨w.heap.size, 0, none⟩) 1 1] (w.alloc (.cells #[.int .i64 a] 3)) _ from named_new W [a] 1 X w (by rw [hWl]; exact hX) rfl (by decide) hWs hl hp)
  have hap : (⟨#[115, 105, 103, 32]⟩ : ByteArray) ++ who = W := hW.symm
  have hbig : ¬ 9223372036854775807 < (⟨#[115, 105, 103, 32]⟩ : ByteArray).size + who.size := by
    show ¬ 9223372036854775807 < 4 + who.size
    omega
  clear hX hl hW hWs hWl hp
  go_enter Tryd.func24, Tryd.ntmps24
  go_wp2_with ((with_reducible (refine RJ.out.mono ?_; rintro e w2 ⟨rfl, hb2⟩; have HB := Lib.hid hb2; clear hb2)))
  go_ret
  exact ⟨rfl, HB.out⟩
end Go.Proofs.YtpamdpfgcbadhaaDoor.Tape
