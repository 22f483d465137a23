/-
  Bare and Initials of package phrase answer what the plain mathematics of the texts Phr and PhrB says, and leave all memory that was there as it was. Conditions: that lengths fit.
-/
import Derived.Test.YthlhhmhldpmpiaaDoorPhrM
namespace Go.Proofs.YthlhhmhldpmpiaaDoor.Phr
open Go.RowKit Mur
set_option maxRecDepth 100000

theorem long_mem (v : List Nat) (ws : List (List Nat)) (hv : v ∈ ws) : v.length + 1 ≤ long ws := by
  induction ws with
  | nil => cases hv
  | cons w ws ih =>
    have e : long (w :: ws) = (w.length + 1) + long ws := by simp [long]
    rcases List.mem_cons.1 hv with rfl | hv
    · omega
    · have := ih hv
      omega
theorem split_lengths (l : List Nat) : ∀ v ∈ split l, (text v).length ≤ 2 * l.length + 2 := fun v hv => by
  have h := split_long l
  have h2 := long_mem v (split l) hv
  have := (text_length v).2
  omega
theorem joinL_length (ls : List (List Nat)) : (joinL ls).length ≤ long ls := by
  induction ls with
  | nil => exact Nat.zero_le _
  | cons w ws ih =>
    have e : long (w :: ws) = (w.length + 1) + long ws := by simp [long]
    cases ws with
    | nil => rw [e]; show w.length ≤ _; omega
    | cons v ws =>
      rw [e, show joinL (w :: v :: ws) = w ++ 32 :: joinL (v :: ws) from rfl, List.length_append, List.length_cons]
      omega

set_option maxHeartbeats 1600000 in
theorem bare_any (s : ByteArray) (X : ByteArray) (w : World) (hX : X = tx (bareB s.data.toList)) (hs : s.size ≤ 1000000) :
    Calls Tryd.prog 27 #[.string s] w fun e w' => e = .returned (.string X) ∧ Below w.heap.size w w' := by
  obtain ⟨L, hL⟩ : ∃ L, L = split (rs s.data.toList) := ⟨_, rfl⟩
  have R1 := Lib.hid (fun u => split_any s u L hL hs)
  have hsl : (rs s.data.toList).length ≤ 1000000 := Nat.le_trans (rs_length _) hs
  have hcnt : L.length ≤ 1000001 := by
    have := split_count (rs s.data.toList)
    rw [hL]
    omega
  have hjl : (text (joinL L)).length ≤ 140737488355328 := by
    have h1 := (text_length (joinL L)).2
    have h2 := joinL_length L
    have h3 := split_long (rs s.data.toList)
    rw [← hL] at h3
    omega
  have hjoin : Lib.join ((wordsT L).map (·.data.toList)) [32] = text (joinL L) := by
    rw [← join_text, wordsT, List.map_map]
    rfl
  have hXe : X = tx (text (joinL L)) := by rw [hX, bareB, hL]
  have RJ := Lib.hid (fun (v : Value) (u : World) (h : u.ownsRow w.heap.size 9 1 v L.length (Strs.strsV (wordsT L))) => show Calls Tryd.prog 50 #[v, .string ⟨#[32]⟩] u fun e w' => e = .returned (.string X) ∧ Below u.heap.size u w' from by
    rcases Strs.own_cases h with ⟨rfl, h1, h2⟩ | ⟨g, c, rfl, h1, h2, h3, h4⟩
    · have hL0 : L = [] := List.eq_nil_of_length_eq_zero h1
      refine (Any.strings_Join_none Tryd.lays156 Tryd.Builder_Extra_156 none 0 ⟨#[32]⟩ u).mono fun e w' k => ?_
      obtain ⟨k1, rfl⟩ := k
      refine ⟨by rw [k1, hXe, hL0]; rfl, Below.refl _ _⟩
    · have := Any.strings_Join Tryd.lays156 Tryd.Builder_Extra_156 g 0 c (wordsT L) ⟨#[32]⟩ u (fun j x hx => by rw [Nat.zero_add]; exact Strs.own_cell h j _ (Strs.strsV_at hx)) h2 (by rw [wordsT_length]; omega) (by rw [wordsT_length]; exact h3) (by
        show (Lib.join _ [32]).length ≤ _
        rw [hjoin]
        exact hjl)
      rw [wordsT_length] at this
      refine this.mono fun e w' k => ?_
      refine ⟨?_, k.2⟩
      rw [k.1, hXe]
      show Ending.returned (Value.string ⟨(Lib.join _ [32]).toArray⟩) = _
      rw [hjoin])
  clear hL hsl hcnt hjl hjoin hXe hX hs
  go_enter Tryd.func27, Tryd.ntmps27
  go_wp2_with fail
  refine (R1.out _).mono ?_
  rintro e w1 ⟨v, rfl, hown, hb1⟩
  have HW1 := Lib.hid hb1
  have RJ1 := Lib.hid (RJ.out v w1 hown)
  clear hb1 hown
  go_wp2_with fail
  refine RJ1.out.mono ?_
  rintro e w2 ⟨rfl, hb2⟩
  have HW2 := Lib.hid (HW1.out.trans (hb2.mono HW1.out.size))
  clear hb2
  go_wp2
  go_ret
  exact ⟨rfl, HW2.out⟩

/-- A row of texts stays where a Builder is written. -/
theorem row_keptK {w w' : World} {b base n : Nat} {v : Value} {xs : List Value} (h : w.ownsRow base 9 1 v n xs) (hk : Lib.OthersKept 5 (some b) w w') (hb : b < base) : w'.ownsRow base 9 1 v n xs := by
  refine ⟨h.1, ?_⟩
  rcases h.2 with hn | ⟨g, cap, cur, rfl, h1, h2, h3⟩
  · exact .inl hn
  · exact .inr ⟨g, cap, cur, rfl, h1, Use.kept_block hk h2 (by omega) (by decide), h3⟩
/-- The words' first runes. -/
def firsts (ls : List (List Nat)) : List Nat := ls.flatMap fun w => w.take 1
theorem firsts_snoc (ls : List (List Nat)) (k : Nat) (v : List Nat) (h : ls[k]? = some v) : firsts (ls.take (k + 1)) = firsts (ls.take k) ++ v.take 1 := by
  have h1 : ls.take (k + 1) = ls.take k ++ [v] := by
    obtain ⟨hk, rfl⟩ := List.getElem?_eq_some_iff.1 h
    exact (List.take_append_getElem hk).symm
  rw [h1]
  simp [firsts]

set_option maxHeartbeats 3200000 in
theorem initials_any (s : ByteArray) (X : ByteArray) (w : World) (hX : X = tx (initialsB s.data.toList)) (hs : s.size ≤ 1000000) :
    Calls Tryd.prog 29 #[.string s] w fun e w' => e = .returned (.string X) ∧ Below w.heap.size w w' := by
  obtain ⟨L, hL⟩ : ∃ L, L = split (rs s.data.toList) := ⟨_, rfl⟩
  have R1 := Lib.hid (fun u => split_any s u L hL hs)
  have hsl : (rs s.data.toList).length ≤ 1000000 := Nat.le_trans (rs_length _) hs
  have hcnt : L.length ≤ 1000001 := by
    have := split_count (rs s.data.toList)
    rw [hL]
    omega
  have hmay : ∀ v ∈ L, (∀ c ∈ v, may c = true) ∧ (text v).length ≤ 2000002 := fun v hv => by
    rw [hL] at hv
    have h1 := split_words (fun c => may c = true) (rs s.data.toList) (rs_may _) v hv
    have h2 := split_lengths (rs s.data.toList) v hv
    exact ⟨fun c hc => (h1.2 c hc).2, by omega⟩
  have HX := Lib.hid (show X = tx (text (firsts L)) by rw [hX, hL]; rfl)
  have HM := Lib.hid hmay
  obtain ⟨n, hn⟩ : ∃ n, n = L.length := ⟨_, rfl⟩
  have HN := Lib.hid hn
  rw [← hn] at R1 hcnt
  clear hL hsl hmay hX hs hn
  go_enter Tryd.func29, Tryd.ntmps29
  go_wp2_with fail
  have HBU := Lib.hid (Lib.IsBuilderF.of (Use.builder_new w.heap.size w.heap.size _ (Nat.le_refl _) (_root_.Go.heap_alloc_new w (.cells #[.pointer none, .slice none 0 0] 45))))
  have HW := Lib.hid ((Below.refl w.heap.size w).alloc (Nat.le_refl _) (.cells #[.pointer none, .slice none 0 0] 45))
  have hbs : w.heap.size < (w.alloc (.cells #[.pointer none, .slice none 0 0] 45)).heap.size := by simp
  generalize w.alloc (.cells #[.pointer none, .slice none 0 0] 45) = w1 at *
  refine (R1.out _).mono ?_
  rintro e w2 ⟨v, rfl, hown, hb2⟩
  have HBU2 := Lib.hid (Use.builderF_below HBU.out hb2)
  have HW2 := Lib.hid (HW.out.trans (hb2.mono HW.out.size))
  have HO2 := Lib.hid hown
  obtain ⟨ao, c, rfl, -, -, -⟩ := Strs.own_slice hown
  clear hb2 hown HBU HW
  go_wp2_with fail
  go_loopw [10] (fun i wr => ∃ k : Nat, k ≤ n ∧ i = .int .i64 k ∧ wr.ownsRow w1.heap.size 9 1 (.slice ao n c) n (Strs.strsV (wordsT L)) ∧ Lib.IsBuilderF 45 5 w.heap.size w.heap.size (Lib.byteCells (text (firsts (L.take k)))) wr ∧ Below w.heap.size w wr) (fun i _ => n - (intOf i).toNat)
  case atStart => exact ⟨0, by omega, rfl, HO2.out, HBU2.out, HW2.out⟩
  case round =>
    clear HO2 HBU2 HW2
    obtain ⟨k, hk, rfl, hown, hbu, hbel⟩ := hrel
    have HO := Lib.hid hown
    have HBU := Lib.hid hbu
    have HW := Lib.hid hbel
    clear hbu hbel
    by_cases hlt : k < n
    · obtain ⟨v, hv⟩ : ∃ v, L[k]? = some v := ⟨_, List.getElem?_eq_getElem (show k < L.length by have := HN.out; omega)⟩
      have hwv : (Strs.strsV (wordsT L))[k]? = some (.string (tx (text v))) := Strs.strsV_at (by simp [wordsT, hv])
      obtain ⟨ao', c', heq, -, -, hrow⟩ := Strs.own_slice hown
      injection heq with e1 e2 e3
      subst e1
      clear e2 e3
      obtain ⟨g, rfl, hg1, hg2, hcell⟩ := hrow k _ hwv
      obtain ⟨hmv, hlv⟩ := HM.out v (List.mem_of_getElem? hv)
      obtain ⟨A, hA⟩ : ∃ A, A = tx (text (v.take 1)) := ⟨_, rfl⟩
      obtain ⟨P, hP⟩ : ∃ P, P = begins v 1 := ⟨_, rfl⟩
      have hPe : P = (text (v.take 1)).length := by rw [hP, begins_pos v 1 (by omega)]; rfl
      have hPle : P ≤ (tx (text v)).size := by rw [hP]; exact begins_le v 1
      have hVs : (tx (text v)).size ≤ 2000002 := hlv
      have R2 := Lib.hid (fun u => begin_any (tx (text v)) v 1 (P : Int) u (runes_text v hmv) (by rw [hP]) (by omega) (by omega) (by omega))
      have hsA : ∀ u, (Instr.slice 9 (.string (tx (text v))) none (some (.int .i64 (P : Int))) none).run Tryd.prog u = .ok (.string A) u := fun u => by
        have := run_slice_string_h (P := Tryd.prog) u 9 (tx (text v)) Tryd.underlying9 .i64 (P : Int) (by omega) (by omega)
        rw [this, Int.toNat_natCast, tx_extract, List.drop_zero, Nat.sub_zero, hPe, hA]
        congr 3
        exact text_take v 1
      have HNX := Lib.hid (show text (firsts (L.take k)) ++ A.data.toList = text (firsts (L.take (k + 1))) by rw [firsts_snoc L k v hv, text_append, hA])
      have hAs : A.size ≤ 2 := by
        have h1 := (text_length (v.take 1)).2
        rw [List.length_take] at h1
        rw [hA, tx_size]
        omega
      have hfl : (text (firsts (L.take k))).length ≤ 2 * k := by
        have h1 := (text_length (firsts (L.take k))).2
        have h2 : ∀ ws : List (List Nat), (firsts ws).length ≤ ws.length := fun ws => by
          induction ws with
          | nil => exact Nat.le_refl _
          | cons w ws ih =>
            show (w.take 1 ++ firsts ws).length ≤ _
            rw [List.length_append, List.length_take, List.length_cons]
            omega
        have h3 := h2 (L.take k)
        rw [List.length_take] at h3
        omega
      generalize tx (text v) = V at *
      have HSZ := Lib.hid (show (text (firsts (L.take k))).length + A.size ≤ 140737488355328 by omega)
      generalize text (firsts (L.take k)) = acc at *
      clear hmv hlv hA hP hPe hPle hVs hv hwv hrow hown hAs hfl
      go_wp2_with fail
      refine (R2.out _).mono ?_
      rintro e w3 ⟨rfl, hb3⟩
      have HO3 := Lib.hid (Strs.own_below HO.out hb3)
      have HBU3 := Lib.hid (Use.builderF_below HBU.out hb3)
      have HW3 := Lib.hid (HW.out.trans (hb3.mono HW.out.size))
      clear hb3 hcell
      go_wp2_with fail
      refine (Use.write_k w.heap.size w.heap.size acc A _ HBU3.out HSZ.out HW3.out.size).mono ?_
      rintro e w4 ⟨rfl, hbu4, hb4, hk4⟩
      rw [HNX.out] at hbu4
      have HBU4 := Lib.hid hbu4
      have HO4 := Lib.hid (row_keptK HO3.out hk4 hbs)
      have HW4 := Lib.hid (HW3.out.trans hb4)
      clear hbu4 hb4 hk4
      go_wp2
      go_roundw
      case rel => exact ⟨k + 1, by omega, by go_num, HO4.out, HBU4.out, HW4.out⟩
      case measure => simp [intOf]; omega
    · obtain rfl : k = n := by omega
      have hXa : X = tx (text (firsts (L.take k))) := by rw [HX.out, List.take_of_length_le (by have := HN.out; omega)]
      subst hXa
      clear hown
      go_wp2_with fail
      refine (Use.string_f w.heap.size w.heap.size _ _ HBU.out HW.out.size).mono ?_
      rintro e w4 ⟨rfl, _, hb4⟩
      have HW4 := Lib.hid (HW.out.trans hb4)
      clear hb4
      go_wp2
      go_ret
      exact ⟨rfl, HW4.out⟩
end Go.Proofs.YthlhhmhldpmpiaaDoor.Phr
