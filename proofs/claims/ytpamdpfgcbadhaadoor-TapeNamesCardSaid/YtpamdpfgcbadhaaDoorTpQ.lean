/-
  Print of package tape: what the plain mathematics of the text Tap says; all memory that was there is left as it was. Conditions: a list is read in memory (CelR).
-/
import Derived.Test.YtpamdpfgcbadhaaDoorTpL
namespace Go.Proofs.YtpamdpfgcbadhaaDoor.Tape
open Go.RowKit Mur Prt Lanes Tap Cel RTap Hold
set_option maxRecDepth 100000
set_option linter.unusedSimpArgs false

/-- Cells as bytes, one behind the other. -/
def flat (l : List K) : List UInt8 := l.flatMap fun c => tell c.1.data.toList ++ tell c.2.data.toList
def okK (c : K) : Bool := okC (c.1.data.toList, c.2.data.toList)
theorem flat_nil : flat [] = [] := rfl
theorem flat_snoc (l : List K) (c : K) : flat (l ++ [c]) = flat l ++ (tell c.1.data.toList ++ tell c.2.data.toList) := by simp [flat]
theorem flat_next (l : List K) (j : Nat) (c : K) (h : l[j]? = some c) : flat (l.take (j + 1)) = flat (l.take j) ++ (tell c.1.data.toList ++ tell c.2.data.toList) := by
  rw [List.take_add_one, h]
  exact flat_snoc _ _
theorem each_flat (l : List K) (h : ∀ c ∈ l, okK c = true) : each layC (toC l) = .ok (flat l) := by
  induction l with
  | nil => rfl
  | cons c l ih =>
    have hl : layC (c.1.data.toList, c.2.data.toList) = .ok (tell c.1.data.toList ++ tell c.2.data.toList) := by
      have : okC (c.1.data.toList, c.2.data.toList) = true := h c List.mem_cons_self
      rw [layC, if_pos this]
    show each layC ((c.1.data.toList, c.2.data.toList) :: toC l) = _
    rw [each_ok layC _ _ _ hl, ih fun x hx => h x (List.mem_cons_of_mem _ hx), Prt.ahead_ok]
    simp [flat]
theorem each_bad (l : List K) (j : Nat) (c : K) (h : ∀ x ∈ l.take j, okK x = true) (hx : l[j]? = some c) (hc : okK c = false) : each layC (toC l) = .error 4 := by
  induction l generalizing j with
  | nil => simp at hx
  | cons y l ih =>
    show each layC ((y.1.data.toList, y.2.data.toList) :: toC l) = _
    cases j with
    | zero =>
      simp at hx
      subst hx
      refine each_error layC _ _ 4 ?_
      rw [layC, if_neg]
      intro e
      have : okC (y.1.data.toList, y.2.data.toList) = false := hc
      rw [this] at e
      cases e
    | succ j =>
      have hy : okC (y.1.data.toList, y.2.data.toList) = true := h y (by simp)
      have hl : layC (y.1.data.toList, y.2.data.toList) = .ok (tell y.1.data.toList ++ tell y.2.data.toList) := by
        rw [layC, if_pos hy]
      rw [each_ok layC _ _ _ hl, ih j (fun x hx => h x (by rw [List.take_succ_cons]; exact List.mem_cons_of_mem _ hx)) (by simpa using hx)]
      exact Prt.ahead_error _ _
theorem flat_length (l : List K) (h : ∀ c ∈ l, okK c = true) : (flat l).length ≤ 6204 * l.length := by
  induction l with
  | nil => simp [flat]
  | cons c l ih =>
    have h1 := ih fun x hx => h x (List.mem_cons_of_mem _ hx)
    have h2 := (okC_iff _).1 (h c List.mem_cons_self)
    have h3 : c.1.data.toList.length ≤ 200 := h2.2.1
    have h4 : c.2.data.toList.length ≤ 6000 := h2.2.2
    have e : flat (c :: l) = (tell c.1.data.toList ++ tell c.2.data.toList) ++ flat l := rfl
    rw [e, List.length_append, List.length_append, tell_length, tell_length, List.length_cons]
    omega
theorem flat_take (l : List K) (j : Nat) : (flat (l.take j)).length + (flat (l.drop j)).length = (flat l).length := by
  rw [← List.length_append]
  congr 1
  unfold flat
  rw [← List.flatMap_append, List.take_append_drop]

set_option maxHeartbeats 6400000 in
theorem print_any (l : List K) (n : Nat) (a : Option Addr) (c : Nat) (X : ByteArray) (E : Int) (w : World) (hX : X = outX (print (toC l))) (hE : E = outE (print (toC l))) (hr : CelR w a l) (hn : l.length = n) (hn2 : n ≤ 9223372036854775807) :
    Calls Tryd.prog 30 #[.slice a n c] w fun e w' => e = .returned (.tuple #[.string X, .int .i64 E]) ∧ Below w.heap.size w w' := by
  by_cases hm : 1000 < n
  · have hp : print (toC l) = .error 4 := by rw [print, if_pos (by rw [toC_length, hn]; exact hm)]
    rw [hp] at hX hE
    obtain rfl : X = ⟨#[]⟩ := hX
    obtain rfl : E = 4 := hE
    have hd : decide (1000 < (n : Int)) = true := decide_eq_true (by omega)
    have hd2 : decide (1000 < n) = true := decide_eq_true hm
    clear hp hr hn
    go_enter Tryd.func30, Tryd.ntmps30
    go_wp2
    go_ret2
    exact ⟨rfl, Below.refl _ _⟩
  have hp : print (toC l) = each layC (toC l) := by rw [print, if_neg (by rw [toC_length, hn]; exact hm)]
  have hd : decide (1000 < (n : Int)) = false := decide_eq_false (by omega)
  have hd2 : decide (1000 < n) = false := decide_eq_false hm
  rw [hp] at hX hE
  have HX := Lib.hid (And.intro hX hE)
  have HR := Lib.hid hr
  have HN := Lib.hid hn
  clear hX hE hr hn hp
  go_enter Tryd.func30, Tryd.ntmps30
  go_wp2
  go_loopw [4, 16] (fun tv i wr => ∃ (j t : Nat), j ≤ n ∧ tv = .int .i64 t ∧ i = .int .i64 j ∧ t = (flat (l.take j)).length ∧ (∀ x ∈ l.take j, okK x = true) ∧ Below w.heap.size w wr) (fun _ i _ => n - (intOf i).toNat)
  case atStart => exact ⟨0, 0, by omega, rfl, rfl, rfl, fun x hx => by simp at hx, Below.refl _ _⟩
  case round =>
    obtain ⟨j, t, hj, rfl, rfl, ht, hok, hb⟩ := hrel
    have HB := Lib.hid hb
    have HT := Lib.hid ht
    have HOK := Lib.hid hok
    have htl : t ≤ 6204 * j := by
      have := flat_length (l.take j) hok
      rw [List.length_take] at this
      rw [ht]
      omega
    clear hb ht hok
    by_cases hlt : j < n
    · have hjl : j < l.length := by have := HN.out; omega
      obtain ⟨g, o, rfl, hgb, hc⟩ := HR.out (by omega)
      obtain ⟨⟨A, D⟩, hx⟩ : ∃ x, l[j]? = some x := ⟨_, List.getElem?_eq_getElem hjl⟩
      have c1 : wr.cell? ⟨g, o + j * 2, none⟩ = some (.string A) := (HB.out.cell (p := ⟨g, o + j * 2, none⟩) hgb).trans (hc j _ hx).1
      have c2 : wr.cell? ⟨g, o + j * 2 + 1, none⟩ = some (.string D) := (HB.out.cell (p := ⟨g, o + j * 2 + 1, none⟩) hgb).trans (hc j _ hx).2
      have HXX := Lib.hid hx
      have HB2 := Lib.hid (HB.out.alloc HB.out.size (.cells #[.string A, .string D] 50))
      clear hjl hgb hc hx
      have hcA : (wr.alloc (.cells #[.string A, .string D] 50)).cell? ⟨wr.heap.size, 0, none⟩ = some (.string A) := new_cel wr (A, D) _ 0 _ rfl
      have hcD : (wr.alloc (.cells #[.string A, .string D] 50)).cell? ⟨wr.heap.size, 1, none⟩ = some (.string D) := new_cel wr (A, D) _ 1 _ rfl
      have hzl : wr.heap.size < (wr.alloc (.cells #[.string A, .string D] 50)).heap.size := by simp
      go_upto_region 7 with (fail)
      obtain ⟨z, hz⟩ : ∃ z, z = wr.heap.size := ⟨_, rfl⟩
      rw [← hz] at hcA hcD hzl ⊢
      generalize wr.alloc (.cells #[.string A, .string D] 50) = w2 at *
      clear hz c1 c2
      have FC := Lib.hid (fun (u : World) (hu : Below w2.heap.size w2 u) => (show u.cell? ⟨z, 0, none⟩ = some (.string A) ∧ u.cell? ⟨z, 1, none⟩ = some (.string D) from ⟨(hu.cell (p := ⟨z, 0, none⟩) hzl).trans hcA, (hu.cell (p := ⟨z, 1, none⟩) hzl).trans hcD⟩))
      obtain ⟨F, hF⟩ : ∃ F, F = okC (A.data.toList, D.data.toList) := ⟨_, rfl⟩
      have R := Lib.hid (fits_any A D F w2 hF)
      cases F with
      | true =>
        have ho := (okC_iff _).1 hF.symm
        have ho1 : A.size ≤ 200 := ho.2.1
        have ho2 : D.size ≤ 6000 := ho.2.2
        have hnx := flat_next l j _ HXX.out
        have hnl : t + (4 + A.size + D.size) = (flat (l.take (j + 1))).length := by
          have e : (flat (l.take (j + 1))).length = (flat (l.take j)).length + ((2 + A.size) + (2 + D.size)) := by
            rw [hnx, List.length_append, List.length_append, tell_length, tell_length]
            rfl
          rw [e, HT.out]
          omega
        have hok2 : ∀ x ∈ l.take (j + 1), okK x = true := by
          rw [List.take_add_one, HXX.out]
          intro x hx
          rcases List.mem_append.1 hx with hx | hx
          · exact HOK.out x hx
          · obtain rfl := List.mem_singleton.1 hx
            exact hF.symm
        have HNL := Lib.hid hnl
        have HOK2 := Lib.hid hok2
        clear ho hnx hnl hok2 hF
        go_wp2_with ((with_reducible refine R.out.mono ?_); rintro e w3 ⟨rfl, hb3⟩; have HB3 := Lib.hid (HB2.out.trans (hb3.mono HB2.out.size)); have hf := FC.out w3 hb3; clear hb3 hcA hcD)
        go_roundw
        case rel => exact ⟨j + 1, t + (4 + A.size + D.size), by omega, by go_num, by go_num, HNL.out, HOK2.out, HB3.out⟩
        case measure => simp [intOf]; omega
      | false =>
        have hfin := each_bad l j _ HOK.out HXX.out hF.symm
        obtain ⟨rfl, rfl⟩ : X = ⟨#[]⟩ ∧ E = 4 := by
          rw [HX.out.1, HX.out.2, hfin]
          exact ⟨rfl, rfl⟩
        clear hfin hF
        go_wp2_with ((with_reducible refine R.out.mono ?_); rintro e w3 ⟨rfl, hb3⟩; have HB3 := Lib.hid (HB2.out.trans (hb3.mono HB2.out.size)); clear hb3 hcA hcD)
        go_ret2
        exact ⟨rfl, HB3.out⟩
    · obtain rfl : j = n := by omega
      have hlt2 : ¬ ((j : Int) < (j : Int)) := by omega
      have hta : l.take j = l := List.take_of_length_le (Nat.le_of_eq HN.out)
      have hokl : ∀ x ∈ l, okK x = true := by have := HOK.out; rwa [hta] at this
      have hfin := each_flat l hokl
      have hT : t = (flat l).length := by have := HT.out; rwa [hta] at this
      have hXE : X = tx (flat l) ∧ E = 0 := by
        rw [HX.out.1, HX.out.2, hfin]
        exact ⟨rfl, rfl⟩
      obtain ⟨hXX, rfl⟩ := hXE
      have HXT := Lib.hid (And.intro hXX (And.intro hT hokl))
      have hmk := fun u => make_bytes u t (by omega)
      have HMK := Lib.hid hmk
      have HM := Lib.hid (show Hld w [] wr from ⟨fun _ h => (by cases h), fun _ h => (by cases h), List.nodup_nil, HB.out⟩)
      clear hfin hta hokl hT hXX hmk HT HOK HX HB
      go_upto_region 14 with ((at_make; refine Hold.make HM.out rfl rfl rfl rfl HMK.out ?_; clear HM; intro b wm HM; simp only [List.nil_append] at HM; replace HM := Lib.hid HM))
      clear HMK
      go_loopw [8, 39] (fun lv i wo => ∃ (k q d m : Nat), k ≤ j ∧ i = .int .i64 k ∧ lv = .slice (some ⟨b, q, none⟩) m m ∧ d = (flat (l.take k)).length ∧ d + m = t ∧ (m ≠ 0 → q = d) ∧ Hld w [⟨b, 5, bytesV (flat (l.take k) ++ List.replicate m 0)⟩] wo) (fun _ i _ => j - (intOf i).toNat)
      case atStart => exact ⟨0, 0, 0, t, by omega, rfl, rfl, rfl, Nat.zero_add _, fun _ => rfl, HM.out⟩
      case round =>
        clear HM
        obtain ⟨k, q, d, m, hk, rfl, rfl, hd0, hdt, hqd, hm0⟩ := hrel
        have HM := Lib.hid hm0
        have HD := Lib.hid hd0
        have HQ := Lib.hid hqd
        clear hm0 hd0 hqd
        by_cases hlt3 : k < j
        · have hjl : k < l.length := by have := HN.out; omega
          obtain ⟨g, o, rfl, hgb, hc⟩ := HR.out (by omega)
          obtain ⟨⟨A, D⟩, hx⟩ : ∃ x, l[k]? = some x := ⟨_, List.getElem?_eq_getElem hjl⟩
          have c1 : wr.cell? ⟨g, o + k * 2, none⟩ = some (.string A) := (HM.out.below.cell (p := ⟨g, o + k * 2, none⟩) hgb).trans (hc k _ hx).1
          have c2 : wr.cell? ⟨g, o + k * 2 + 1, none⟩ = some (.string D) := (HM.out.below.cell (p := ⟨g, o + k * 2 + 1, none⟩) hgb).trans (hc k _ hx).2
          have hok : okK (A, D) = true := HXT.out.2.2 _ (List.mem_of_getElem? hx)
          obtain ⟨-, hA, hD⟩ := (okC_iff _).1 hok
          have hA : A.size ≤ 200 := hA
          have hD : D.size ≤ 6000 := hD
          have hnx := flat_next l k _ hx
          have hle := flat_take l (k + 1)
          obtain ⟨F0, hF0⟩ : ∃ F, F = flat (l.take k) := ⟨_, rfl⟩
          have hF2 : flat (l.take (k + 1)) = F0 ++ tell A.data.toList ++ tell D.data.toList := by rw [hnx, ← hF0, List.append_assoc]
          have hl0 : F0.length = d := by rw [hF0]; exact HD.out.symm
          have hl1 : (F0 ++ tell A.data.toList).length = d + (2 + A.size) := by rw [List.length_append, tell_length, hl0]; rfl
          have hl2 : (F0 ++ tell A.data.toList ++ tell D.data.toList).length = d + (2 + A.size) + (2 + D.size) := by rw [List.length_append, hl1, tell_length]; rfl
          have hT := HXT.out.2.1
          obtain ⟨m2, hm2⟩ : ∃ m2, m = (2 + A.size) + ((2 + D.size) + m2) := ⟨m - ((2 + A.size) + (2 + D.size)), by rw [hF2, hl2] at hle; omega⟩
          obtain ⟨m1, hm1⟩ : ∃ m1, m1 = (2 + D.size) + m2 := ⟨_, rfl⟩
          obtain ⟨d1, hd1⟩ : ∃ d1, d1 = d + (2 + A.size) := ⟨_, rfl⟩
          obtain ⟨d2, hd2'⟩ : ∃ d2, d2 = d1 + (2 + D.size) := ⟨_, rfl⟩
          obtain ⟨q2, hq2⟩ : ∃ q2, q2 = onward d1 (2 + D.size) m1 := ⟨_, rfl⟩
          obtain ⟨V0, hV0⟩ : ∃ V, V = bytesV (F0 ++ List.replicate m 0) := ⟨_, rfl⟩
          obtain ⟨V1, hV1⟩ : ∃ V, V = bytesV (F0 ++ (tell A.data.toList ++ List.replicate m1 0)) := ⟨_, rfl⟩
          obtain ⟨V2, hV2⟩ : ∃ V, V = bytesV (flat (l.take (k + 1)) ++ List.replicate m2 0) := ⟨_, rfl⟩
          have R1 := Lib.hid (show ∀ z u, Hld w [⟨b, 5, V0⟩, ⟨z, 50, [.string A, .string D]⟩] u → Calls Tryd.prog 41 #[.slice (some ⟨b, d, none⟩) m m, .string A] u fun e w' => e = .returned (.slice (some ⟨b, d1, none⟩) m1 m1) ∧ Hld w [⟨b, 5, V1⟩, ⟨z, 50, [.string A, .string D]⟩] w' from fun z u hu => by
            have := lay_any w u b [⟨z, 50, [.string A, .string D]⟩] F0 (List.replicate (2 + A.size) 0) (List.replicate m1 0) d m A hl0 (List.length_replicate ..) (by rw [List.length_replicate]; omega) (by omega) (by omega) (by rw [List.replicate_append_replicate, show 2 + A.size + m1 = m by omega, ← hV0]; exact hu)
            rw [List.length_replicate, onward_plain (by omega), ← hd1, ← hV1] at this
            exact this)
          have R2 := Lib.hid (show ∀ z u, Hld w [⟨b, 5, V1⟩, ⟨z, 50, [.string A, .string D]⟩] u → Calls Tryd.prog 41 #[.slice (some ⟨b, d1, none⟩) m1 m1, .string D] u fun e w' => e = .returned (.slice (some ⟨b, q2, none⟩) m2 m2) ∧ Hld w [⟨b, 5, V2⟩, ⟨z, 50, [.string A, .string D]⟩] w' from fun z u hu => by
            have := lay_any w u b [⟨z, 50, [.string A, .string D]⟩] (F0 ++ tell A.data.toList) (List.replicate (2 + D.size) 0) (List.replicate m2 0) d1 m1 D (hl1.trans hd1.symm) (List.length_replicate ..) (by rw [List.length_replicate]; omega) hD (by omega) (by rw [List.replicate_append_replicate, ← hm1, List.append_assoc, ← hV1]; exact hu)
            rw [List.length_replicate, ← hq2, ← List.append_assoc, ← hF2, ← hV2] at this
            exact this)
          have hqd : q = d := HQ.out (by omega)
          subst hqd
          rw [← hF0, ← hV0] at HM
          have HM2 := Lib.hid (HM.out.add 50 [.string A, .string D])
          have HE := Lib.hid (show m2 ≠ 0 → q2 = d2 from fun h0 => by rw [hq2, onward_plain (by omega), hd2'])
          have HD2 := Lib.hid (show d2 = (flat (l.take (k + 1))).length from by rw [hF2, hl2, hd2', hd1])
          have HV2 := Lib.hid hV2
          have hdm : d2 + m2 = t := by omega
          clear hjl hgb hc hx hok hnx hle hF2 hl0 hl1 hl2 hT hm2 hm1 hq2 hV0 hV1 hV2 hF0 hd2' HM hd1
          go_upto_region 16 with (fail)
          simp only [List.cons_append, List.nil_append] at HM2
          obtain ⟨z, hz⟩ : ∃ z, z = wr.heap.size := ⟨_, rfl⟩
          rw [← hz] at HM2 ⊢
          have HM := Lib.hid (show Hld w _ (wr.alloc (.cells #[.string A, .string D] 50)) from HM2.out)
          clear HM2
          generalize wr.alloc (.cells #[.string A, .string D] 50) = w2 at *
          clear hz c1 c2
          go_wp2_with ((first
            | (with_reducible refine Hold.load1 HM.out 1 (c := .string A) rfl rfl rfl rfl (rfl) (Cel.cellStr) ?_)
            | (with_reducible refine Hold.load1 HM.out 1 (c := .string D) rfl rfl rfl rfl (rfl) (Cel.cellStr) ?_)
            | (with_reducible (refine (R1.out _ _ HM.out).mono ?_; rintro e w3 ⟨rfl, hm⟩; replace HM := Lib.hid hm; clear hm))
            | (with_reducible (refine (R2.out _ _ HM.out).mono ?_; rintro e w3 ⟨rfl, hm⟩; replace HM := Lib.hid hm; clear hm))))
          go_roundw
          case rel =>
            have hm := Hld.front (m := [⟨b, 5, V2⟩]) HM.out
            rw [HV2.out] at hm
            exact ⟨k + 1, q2, d2, m2, by omega, by go_num, rfl, HD2.out, hdm, HE.out, hm⟩
          case measure => simp [intOf]; omega
        · obtain rfl : k = j := by omega
          have hlt4 : ¬ ((k : Int) < (k : Int)) := by omega
          have hta : l.take k = l := List.take_of_length_le (Nat.le_of_eq HN.out)
          have hd := HD.out
          rw [hta, ← HXT.out.2.1] at hd
          obtain rfl : m = 0 := by omega
          rw [hta, List.replicate_zero, List.append_nil] at HM
          have hback := string_row (P := Tryd.prog) (HM.out.at 0 rfl).row 51 5 9 Tryd.underlying51 Tryd.underlying5 Tryd.underlying9 t t HXT.out.2.1
          rw [show (⟨(flat l).toArray⟩ : ByteArray) = X from HXT.out.1.symm] at hback
          clear hta hd
          go_wp2
          go_ret2
          exact ⟨rfl, HM.out.below⟩
end Go.Proofs.YtpamdpfgcbadhaaDoor.Tape
