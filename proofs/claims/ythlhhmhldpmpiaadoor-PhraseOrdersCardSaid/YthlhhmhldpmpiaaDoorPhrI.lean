/-
  Split of package phrase answers the words that the plain mathematics of the texts Phr and PhrB says, in a row of its own, and leaves all memory that was there as it was. Conditions: that lengths fit.
-/
import Derived.Test.YthlhhmhldpmpiaaDoorPhrF
import Derived.Test.YthlhhmhldpmpiaaDoorStrA
namespace Go.Proofs.YthlhhmhldpmpiaaDoor.Phr
open Go.RowKit Mur
set_option maxRecDepth 100000

/-- Words, as texts. -/
def wordsT (ls : List (List Nat)) : List ByteArray := ls.map fun l => tx (text l)
theorem wordsT_length (ls : List (List Nat)) : (wordsT ls).length = ls.length := by simp [wordsT]
theorem wordsT_snoc (ls : List (List Nat)) (l : List Nat) : wordsT ls ++ [tx (text l)] = wordsT (ls ++ [l]) := by simp [wordsT]
theorem row_ne_iter {w : World} {base n size : Nat} {e : TypeId} {v : Value} {xs : List Value} (h : w.ownsRow base e size v n xs) {k : Nat} {s : ByteArray} {pos : Nat} (hk : w.heap[k]? = some (.stringIter s pos)) : ∀ g, v.ownBlock = some g → g ≠ k := fun g hg e1 => by
  rcases h.2 with ⟨rfl, _⟩ | ⟨g', cap, cur, rfl, _, h2, _⟩
  · simp [Value.ownBlock] at hg
  · simp [Value.ownBlock] at hg
    subst hg
    rw [e1, hk] at h2
    cases h2
theorem row_iter {w : World} {base n size : Nat} {e : TypeId} {v : Value} {xs : List Value} (h : w.ownsRow base e size v n xs) {k : Nat} {s : ByteArray} {pos : Nat} (hk : w.heap[k]? = some (.stringIter s pos)) (pos' : Nat) : (w.iterAt k s pos').ownsRow base e size v n xs :=
  Strs.own_kept h fun g hg => Lib.iterAt_other w k g s pos' (row_ne_iter h hk g hg)
theorem grown_iter {w w' : World} {v : Value} (hg : w.grownBy w' v.ownBlock) {k : Nat} {s : ByteArray} {pos : Nat} (hk : w.heap[k]? = some (.stringIter s pos)) (hne : ∀ g, v.ownBlock = some g → g ≠ k) : w'.heap[k]? = some (.stringIter s pos) := by
  rw [hg.block k (Array.getElem?_eq_some_iff.1 hk).1 (fun e => hne k e.symm rfl)]
  exact hk
theorem place_enc {s : ByteArray} {p : Nat} {c : Nat} {r : List Nat} (h : runes (s.data.toList.drop p) = some (c :: r)) : (s.data.toList.drop p).take (enc c).length = enc c := by
  have := (text_of_runes h).1
  rw [text_cons] at this
  rw [← this]
  exact List.take_left
theorem split_count (l : List Nat) : (split l).length ≤ l.length + 1 := by
  have h := split_long l
  have : ∀ ws : List (List Nat), ws.length ≤ long ws := fun ws => by
    induction ws with
    | nil => exact Nat.le_refl _
    | cons w ws ih =>
      have e : long (w :: ws) = (w.length + 1) + long ws := by simp [long]
      rw [e, List.length_cons]
      omega
  exact Nat.le_trans (this _) h
theorem splitGo_end (wd : List Nat) : splitGo wd [] = if wd = [] then [] else [wd] := by rw [splitGo]
theorem splitGo_blank (r : List Nat) : splitGo [] (32 :: r) = splitGo [] r := by rw [splitGo, if_pos rfl, if_pos rfl]
theorem splitGo_word (wd r : List Nat) (h : wd ≠ []) : splitGo wd (32 :: r) = wd :: splitGo [] r := by rw [splitGo, if_pos rfl, if_neg h]
theorem splitGo_more (wd r : List Nat) (c : Nat) (h : c ≠ 32) : splitGo wd (c :: r) = splitGo (wd ++ [c]) r := by rw [splitGo, if_neg h]

/-- Where the word at hand begins. -/
def Since (s : ByteArray) (wd : List Nat) (pos : Nat) (z : Int) : Prop := (wd = [] ∧ z = -1) ∨ (wd ≠ [] ∧ ∃ f : Nat, z = f ∧ f + (text wd).length = pos ∧ (s.data.toList.drop f).take (text wd).length = text wd)
theorem since_first {s : ByteArray} {pos c : Nat} (h : (s.data.toList.drop pos).take (enc c).length = enc c) : Since s [c] (pos + (enc c).length) (pos : Int) := .inr ⟨by simp, pos, rfl, by rw [text_one], by rw [text_one]; exact h⟩
theorem since_more {s : ByteArray} {wd : List Nat} {pos c f : Nat} (h1 : f + (text wd).length = pos) (h2 : (s.data.toList.drop f).take (text wd).length = text wd) (h : (s.data.toList.drop pos).take (enc c).length = enc c) : Since s (wd ++ [c]) (pos + (enc c).length) (f : Int) := .inr ⟨by simp, f, rfl, by rw [text_append, text_one, List.length_append]; omega, by
  rw [text_append, text_one, List.length_append, List.take_add, h2, List.drop_drop, h1, h]⟩

set_option maxHeartbeats 3200000 in
theorem split_any (s : ByteArray) (w : World) (L : List (List Nat)) (hL : L = split (rs s.data.toList)) (hs : s.size ≤ 1000000) :
    Calls Tryd.prog 21 #[.string s] w fun e w' => ∃ v, e = .returned v ∧ w'.ownsRow w.heap.size 9 1 v L.length (Strs.strsV (wordsT L)) ∧ Below w.heap.size w w' := by
  obtain ⟨S, hS⟩ : ∃ S, S = tx (sd s.data.toList) := ⟨_, rfl⟩
  obtain ⟨l, hl⟩ : ∃ l, l = rs s.data.toList := ⟨_, rfl⟩
  have R1 := Lib.hid (fun u => said_any s S u hS)
  have hSs : S.size ≤ 1000000 := by rw [hS, tx_size]; exact Nat.le_trans (sd_length _) hs
  have HRS := Lib.hid (show runes S.data.toList = some l by rw [hS, hl]; exact sd_runes _)
  have HL := Lib.hid (show L = split l by rw [hL, hl])
  have hcnt : L.length ≤ 1000001 := by
    have h1 := split_count l
    have h2 := rs_length s.data.toList
    rw [← hl] at h2
    have h3 : s.data.toList.length = s.size := rfl
    rw [HL.out]
    omega
  have HCNT := Lib.hid hcnt
  clear hS hl hL hs hcnt
  go_enter Tryd.func21, Tryd.ntmps21
  go_wp2_with fail
  have HO1 := Lib.hid (World.ownsRow_made (w := w) (base := w.heap.size) (e := 9) (size := 1) #[] 0 (Nat.le_refl _) (by decide) rfl)
  have HW1 := Lib.hid ((Below.refl w.heap.size w).alloc (Nat.le_refl _) (.cells #[] 9))
  refine (R1.out _).mono ?_
  rintro e w2 ⟨rfl, hb2⟩
  have HO2 := Lib.hid (Strs.own_below HO1.out hb2)
  have HW2 := Lib.hid (HW1.out.trans (hb2.mono HW1.out.size))
  clear hb2 HO1 HW1
  go_wp2
  go_loopg [3, 4] l.length (fun gk v fr wx => ∃ (pos : Nat) (r : List Nat) (acc : List (List Nat)) (wd : List Nat) (z : Int), fr = .int .i64 z ∧ wx.heap[w2.heap.size]? = some (.stringIter S pos) ∧ pos ≤ S.size ∧ runes (S.data.toList.drop pos) = some r ∧ r.length = gk ∧ L = acc ++ splitGo wd r ∧ Since S wd pos z ∧ wx.ownsRow w.heap.size 9 1 v acc.length (Strs.strsV (wordsT acc)) ∧ Below w.heap.size w wx)
  case atStart => exact ⟨0, l, [], [], -1, rfl, World.iter_heap w2 S 0, by omega, by rw [List.drop_zero]; exact HRS.out, rfl, by rw [HL.out]; rfl, .inl ⟨rfl, rfl⟩, HO2.out.alloc _, HW2.out.alloc HW2.out.size _⟩
  case round =>
    have hg2 := HW2.out.size
    clear HRS HL HO2 HW2
    obtain ⟨pos, r, acc, wd, z, rfl, hit, hps, hrs, hgk, hacc, hsi, hown, hbel⟩ := hrel
    have HACC := Lib.hid hacc
    have HGK := Lib.hid hgk
    have HO := Lib.hid hown
    have HW := Lib.hid hbel
    have HNE := Lib.hid (row_ne_iter hown hit)
    have HAL := Lib.hid (show acc.length ≤ 1000001 by
      have := congrArg List.length hacc
      rw [List.length_append] at this
      have := HCNT.out
      omega)
    clear hacc hgk hown hbel
    rcases at_place S pos r hrs hps with ⟨rfl, hend⟩ | ⟨c, r', rfl, hlt, hd1, hmay, hd2, hrs2, hle⟩
    · have hnx : ∀ ty, (Instr.next (.pointer (some ⟨w2.heap.size, 0, none⟩)) true ty).run Tryd.prog wr = _ := fun ty => Lib.run_next_end_at wr w2.heap.size S pos ty hit (by omega)
      rcases hsi with ⟨rfl, rfl⟩ | ⟨hne, f, rfl, h1, h2⟩
      · have hLa : L = acc := by rw [HACC.out, splitGo_end, if_pos rfl, List.append_nil]
        subst hLa
        clear hrs hit hend HNE
        go_wp2
        go_ret
        exact ⟨_, rfl, HO.out, HW.out⟩
      · have hLa : L = acc ++ [wd] := by rw [HACC.out, splitGo_end, if_neg hne]
        have hd : decide (0 ≤ (f : Int)) = true := decide_eq_true (by omega)
        obtain ⟨T, hT⟩ : ∃ T, T = tx (text wd) := ⟨_, rfl⟩
        have hsl : ∀ u, (Instr.slice 9 (.string S) (some (.int .i64 (f : Int))) none none).run Tryd.prog u = .ok (.string T) u := fun u => by
          have := run_slice_string_l (P := Tryd.prog) u 9 S Tryd.underlying9 .i64 (f : Int) (by omega) (by omega)
          rw [this, Int.toNat_natCast, tx_extract, show S.size - f = (text wd).length by omega, h2, hT]
        have HLA := Lib.hid hLa
        have HT := Lib.hid hT
        clear hrs hit hend h1 h2 hT hLa hne
        go_wp2_with (at_builtin; refine Strs.append_strs rfl _ _ rfl w.heap.size acc.length _ (wordsT acc) rfl (HO.out.alloc _) wr.heap.size 1 1 [T] rfl rfl (Strs.new_one _ _ _) (by have := HAL.out; omega) (Nat.le_trans HW.out.size (by simp)) ?_)
        intro v' w3 hown3 hgrow3
        have HW3 := Lib.hid ((HW.out.alloc HW.out.size (.cells #[.string T] 9)).grown hgrow3 (Nat.le_trans HW.out.size (by simp)) (fun j hj => (HO.out.lt j hj).1))
        rw [HT.out, wordsT_snoc, ← HLA.out] at hown3
        have HO3 := Lib.hid hown3
        clear hown3 hgrow3
        go_wp2
        go_ret
        exact ⟨_, rfl, by rw [show L.length = acc.length + 1 by rw [HLA.out]; simp]; exact HO3.out, HW3.out⟩
    · have hnx : ∀ ty, (Instr.next (.pointer (some ⟨w2.heap.size, 0, none⟩)) true ty).run Tryd.prog wr = _ := fun ty => Lib.run_next_any_at wr w2.heap.size S pos ty hit hlt
      have hpe := place_enc hrs
      rw [hd1, hd2] at hnx
      have HIT := Lib.hid (Lib.iterAt_heap wr w2.heap.size S pos (pos + (enc c).length) hit)
      have HO2 := Lib.hid (row_iter HO.out hit (pos + (enc c).length))
      have HW2 := Lib.hid (Lib.below_iterAt HW.out (k := w2.heap.size) hg2 S (pos + (enc c).length))
      have HR := Lib.hid hrs2
      have HLE := Lib.hid hle
      clear hrs hrs2 hd1 hd2 hle hit HO HW
      obtain ⟨W, hW⟩ : ∃ W, wr.iterAt w2.heap.size S (pos + (enc c).length) = W := ⟨_, rfl⟩
      rw [hW] at hnx HO2 HW2 HIT
      clear hW
      by_cases hc : c = 32
      · subst hc
        clear hmay
        rcases hsi with ⟨rfl, rfl⟩ | ⟨hne, f, rfl, h1, h2⟩
        · clear hpe
          go_wp2
          go_roundg r'.length
          case measure => have := HGK.out; simp at this; omega
          case rel => exact ⟨pos + (enc 32).length, r', acc, [], -1, rfl, HIT.out, HLE.out, HR.out, rfl, by rw [HACC.out, splitGo_blank], .inl ⟨rfl, rfl⟩, HO2.out, HW2.out⟩
        · have hd : decide (0 ≤ (f : Int)) = true := decide_eq_true (by omega)
          have hd0 : decide ((f : Int) < 0) = false := decide_eq_false (by omega)
          obtain ⟨T, hT⟩ : ∃ T, T = tx (text wd) := ⟨_, rfl⟩
          have hsl : ∀ u, (Instr.slice 9 (.string S) (some (.int .i64 (f : Int))) (some (.int .i64 (pos : Int))) none).run Tryd.prog u = .ok (.string T) u := fun u => by
            have := run_slice_string u 9 S .i64 .i64 (f : Int) (pos : Int) Tryd.underlying9 (by omega) (by omega) (by omega)
            rw [this, Int.toNat_natCast, Int.toNat_natCast, tx_extract, show pos - f = (text wd).length by omega, h2, hT]
          have HA := Lib.hid (show L = (acc ++ [wd]) ++ splitGo [] r' by rw [HACC.out, splitGo_word _ _ hne, List.append_assoc]; rfl)
          have HT := Lib.hid hT
          clear hpe h1 h2 hT hne HACC
          go_wp2_with (at_builtin; refine Strs.append_strs rfl _ _ rfl w.heap.size acc.length _ (wordsT acc) rfl (HO2.out.alloc _) W.heap.size 1 1 [T] rfl rfl (Strs.new_one _ _ _) (by have := HAL.out; omega) (Nat.le_trans HW2.out.size (by simp)) ?_)
          intro v' w3 hown3 hgrow3
          have HW3 := Lib.hid ((HW2.out.alloc HW2.out.size (.cells #[.string T] 9)).grown hgrow3 (Nat.le_trans HW2.out.size (by simp)) (fun j hj => (HO2.out.lt j hj).1))
          have HIT3 := Lib.hid (grown_iter hgrow3 ((Below.heap_alloc _ _ _ (Array.getElem?_eq_some_iff.1 HIT.out).1).trans HIT.out) HNE.out)
          rw [HT.out, wordsT_snoc] at hown3
          have HO3 := Lib.hid hown3
          clear hown3 hgrow3
          go_wp2
          go_roundg r'.length
          case measure => have := HGK.out; simp at this; omega
          case rel => exact ⟨pos + (enc 32).length, r', acc ++ [wd], [], -1, rfl, HIT3.out, HLE.out, HR.out, rfl, HA.out, .inl ⟨rfl, rfl⟩, by rw [show (acc ++ [wd]).length = acc.length + 1 by simp]; exact HO3.out, HW3.out⟩
      · have hn1 : ((c : Int) != 32) = true := by simp; omega
        have hn2 : ((c : Int) == 32) = false := by rw [beq_eq_false_iff_ne]; omega
        clear hmay
        rcases hsi with ⟨rfl, rfl⟩ | ⟨hne, f, rfl, h1, h2⟩
        · have HS := Lib.hid (since_first hpe)
          clear hpe
          go_wp2
          go_roundg r'.length
          case measure => have := HGK.out; simp at this; omega
          case rel => exact ⟨pos + (enc c).length, r', acc, [c], pos, rfl, HIT.out, HLE.out, HR.out, rfl, by rw [HACC.out, splitGo_more _ _ _ hc]; rfl, HS.out, HO2.out, HW2.out⟩
        · have HS := Lib.hid (since_more h1 h2 hpe)
          have hd0 : decide ((f : Int) < 0) = false := decide_eq_false (by omega)
          clear hpe h1 h2 hne
          go_wp2
          go_roundg r'.length
          case measure => have := HGK.out; simp at this; omega
          case rel => exact ⟨pos + (enc c).length, r', acc, wd ++ [c], f, rfl, HIT.out, HLE.out, HR.out, rfl, by rw [HACC.out, splitGo_more _ _ _ hc], HS.out, HO2.out, HW2.out⟩
end Go.Proofs.YthlhhmhldpmpiaaDoor.Phr
