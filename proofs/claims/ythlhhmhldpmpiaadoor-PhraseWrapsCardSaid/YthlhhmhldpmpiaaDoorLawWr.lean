/-
  PhraseWraps of layer 11: for any text and width: no line has more runes than there may be, none is empty, all together have the words runes; with room enough there is one line at most. Conditions: those of the row alone (the listed tables of the library as the text lays them; the tie is the card).
-/
import Derived.Test.YthlhhmhldpmpiaaDoorPhrFrame
import Derived.Test.YthlhhmhldpmpiaaDoorPhrAwake
namespace Go.Proofs.YthlhhmhldpmpiaaDoor.LawWr
open Go.ChangeShapes Go.WideShapes Go.ChangeAt Go.ChangeMaps Go.RowKit Mur Phr
set_option maxRecDepth 100000

theorem rest_of (x : Int) : ∃ m : Nat, m < 20 ∧ wrap64 ((IntKind.u64.wrap x).tmod 20) = (m : Int) := by
  rw [IntKind.wrap_u64, Int.tmod_eq_emod_of_nonneg (by omega)]
  refine ⟨(x % 18446744073709551616 % 20).toNat, by omega, ?_⟩
  unfold wrap64
  omega
theorem take_next {α : Type} (L : List α) (k : Nat) (v : α) (h : L[k]? = some v) : L.take (k + 1) = L.take k ++ [v] := by
  obtain ⟨hk, rfl⟩ := List.getElem?_eq_some_iff.1 h
  exact (List.take_append_getElem hk).symm
theorem flat_next (L : List (List Nat)) (k : Nat) (v : List Nat) (h : L[k]? = some v) : text (L.take (k + 1)).flatten = text (L.take k).flatten ++ text v := by
  rw [take_next L k v h, List.flatten_append, text_append]
  simp
theorem flat_length (L : List (List Nat)) (k : Nat) : (text (L.take k).flatten).length ≤ (text L.flatten).length := by
  have h : L.flatten = (L.take k).flatten ++ (L.drop k).flatten := by rw [← List.flatten_append, List.take_append_drop]
  rw [h, text_append, List.length_append]
  omega
/-- The words of lines. -/
def gath (ls : List (List Nat)) : List UInt8 := (ls.map fun v => text (split v).flatten).flatten
theorem gath_next (L : List (List Nat)) (k : Nat) (v : List Nat) (h : L[k]? = some v) : gath (L.take (k + 1)) = gath (L.take k) ++ text (split v).flatten := by
  rw [take_next L k v h, gath, List.map_append, List.flatten_append]
  simp [gath]
theorem gath_length (L : List (List Nat)) (k : Nat) : (gath (L.take k)).length ≤ (gath L).length := by
  have h : gath L = gath (L.take k) ++ gath (L.drop k) := by
    rw [gath, gath, gath, ← List.flatten_append, ← List.map_append, List.take_append_drop]
  rw [h, List.length_append]
  omega
theorem lines_may (s : List UInt8) (wd : Int) (h : 1 ≤ wd) : ∀ v ∈ wrap wd (rs s), ∀ c ∈ v, may c = true := by
  have hw := split_words (fun c => may c = true) (rs s) (rs_may s)
  rw [wrap, if_neg (by omega)]
  exact wrapGo_may (fun c => may c = true) (by decide) wd.toNat (by omega) (split (rs s)) [] (fun c hc => by cases hc) (fun w hw' => ⟨(hw w hw').1, fun c hc => ((hw w hw').2 c hc).2⟩)
theorem gath_words (s : List UInt8) (wd : Int) (h : 1 ≤ wd) : gath (wrap wd (rs s)) = text (split (rs s)).flatten := by
  have h1 := wrap_words s wd h
  have h2 : (splitB s).flatten = text (split (rs s)).flatten := by rw [splitB, text_flatten]
  rw [h2] at h1
  rw [← h1, gath, wrapB, List.map_map]
  congr 1
  refine List.map_congr_left fun v hv => ?_
  show text (split v).flatten = (splitB (text v)).flatten
  rw [splitB, rs_text v (lines_may s wd h v hv), text_flatten]
theorem words_length (l : List Nat) : (text (split l).flatten).length ≤ 2 * l.length := by
  have h := (text_length (split l).flatten).2
  rw [split_flatten] at h
  have h2 : (noBlank l).length ≤ l.length := List.length_filter_le _ _
  rw [split_flatten]
  omega

theorem solid_count (ls : List (List Nat)) (h : ∀ v ∈ ls, v ≠ []) : ls.length ≤ ls.flatten.length := by
  induction ls with
  | nil => exact Nat.le_refl _
  | cons v ls ih =>
    have h1 := ih fun u hu => h u (List.mem_cons_of_mem _ hu)
    have h2 : v.length ≠ 0 := fun e => h v List.mem_cons_self (List.eq_nil_of_length_eq_zero e)
    rw [List.length_cons, List.flatten_cons, List.length_append]
    omega
theorem begun_count (line : List Nat) : (Phr.begun line).length ≤ 1 := by unfold Phr.begun; split <;> simp
theorem begun_some (line : List Nat) (h : line ≠ []) : (Phr.begun line).length = 1 := by rw [Phr.begun, if_neg h]; rfl
theorem wrapGo_count (m : Nat) (hm : 0 < m) (ws : List (List Nat)) : ∀ line, (∀ w ∈ ws, w ≠ []) → (wrapGo m line ws).length ≤ (Phr.begun line).length + ws.flatten.length := by
  induction ws with
  | nil => intro line _; rw [wrapGo]; omega
  | cons w ws ih =>
    intro line hw
    have hw0 := hw w List.mem_cons_self
    have hws : ∀ w ∈ ws, w ≠ [] := fun u hu => hw u (List.mem_cons_of_mem _ hu)
    rw [wrapGo, List.flatten_cons, List.length_append]
    split
    · rename_i h
      have h1 := ih (line ++ 32 :: w) hws
      rw [begun_some _ (by simp)] at h1
      rw [begun_some _ h.1]
      omega
    · obtain ⟨h1, h2, h3, h4⟩ := chop_facts m hm w.length w (Nat.le_refl _) hw0
      have h5 := ih (chop m w).2 hws
      rw [begun_some _ h3] at h5
      have h6 := solid_count (chop m w).1 fun v hv => (h2 v hv).1
      have h7 := congrArg List.length h1
      have h8 : (chop m w).2.length ≠ 0 := fun e => h3 (List.eq_nil_of_length_eq_zero e)
      rw [List.length_append] at h7
      rw [List.length_append, List.length_append]
      omega
theorem lines_count (s : List UInt8) (wd : Int) (h : 1 ≤ wd) : (wrap wd (rs s)).length ≤ (rs s).length + 1 := by
  have hw := split_words (fun c => may c = true) (rs s) (rs_may s)
  rw [wrap, if_neg (by omega)]
  have h1 := wrapGo_count wd.toNat (by omega) (split (rs s)) [] fun w hw' => (hw w hw').1
  have h2 := begun_count []
  have h3 : (noBlank (rs s)).length ≤ (rs s).length := List.length_filter_le _ _
  rw [split_flatten] at h1
  omega

set_option maxHeartbeats 12800000 in
theorem walk (s : ByteArray) (n : Int) (w : World) (hs : s.data.toList.length ≤ 140737488355328) (_hn : -9223372036854775808 ≤ n ∧ n ≤ 9223372036854775807) (hl : Lim w) :
    Calls Tryd.prog 6 #[.string s, .int .i64 n] w fun e w' => e = .returned (.bool true) ∧ Below w.heap.size w w' := by
  have hsl : s.data.toList.length = s.size := rfl
  have HLIM := Lib.hid (fun (u : World) (hb : Below w.heap.size w u) => hl.below hb)
  have RA := Lib.hid (fun u hu => awake_any u hu)
  clear hl
  by_cases hg : 300 < s.size
  · have hd : decide (300 < (s.size : Int)) = true := decide_eq_true (by omega)
    have hd2 : decide (300 < s.size) = true := decide_eq_true hg
    clear hsl hs
    go_enter Tryd.func6, Tryd.ntmps6
    go_wp2_with fail
    refine (RA.out _ (HLIM.out _ (Below.refl _ _))).mono ?_
    rintro e w1 ⟨rfl, hb1⟩
    go_wp2
    go_ret
    exact ⟨rfl, hb1⟩
  · have hd : decide (300 < (s.size : Int)) = false := decide_eq_false (by omega)
    have hd2 : decide (300 < s.size) = false := decide_eq_false hg
    obtain ⟨m, hm, hm2⟩ := rest_of n
    obtain ⟨L, hL⟩ : ∃ L, L = wrap (1 + (m : Int)) (rs s.data.toList) := ⟨_, rfl⟩
    obtain ⟨W, hW⟩ : ∃ W, W = split (rs s.data.toList) := ⟨_, rfl⟩
    obtain ⟨M, hM⟩ : ∃ M, M = wrap 1000 (rs s.data.toList) := ⟨_, rfl⟩
    have T1 := Lib.hid (fun u hu => wrap_any s (1 + (m : Int)) u L hL (by omega) (by omega) (by omega) hu)
    have T2 := Lib.hid (fun u => split_any s u W hW (by omega))
    have T3 := Lib.hid (fun u hu => wrap_any s 1000 u M hM (by omega) (by omega) (by omega) hu)
    have hM1 : M.length ≤ 1 := by
      have := wrap_one s.data.toList (by omega)
      rw [wrapB, List.length_map] at this
      rw [hM]
      exact this
    have hlf : ∀ v ∈ L, 1 ≤ v.length ∧ v.length ≤ 1 + m ∧ ∀ c ∈ v, may c = true := fun v hv => by
      have hmy := lines_may s.data.toList (1 + (m : Int)) (by omega)
      rw [← hL] at hmy
      have h1 := wrap_lines s.data.toList (1 + (m : Int)) (text v) (by rw [wrapB, ← hL]; exact List.mem_map.2 ⟨v, hv, rfl⟩)
      rw [count, rs_text v (hmy v hv)] at h1
      exact ⟨h1.1, by omega, hmy v hv⟩
    have HLF := Lib.hid hlf
    have hgl := gath_words s.data.toList (1 + (m : Int)) (by omega)
    rw [← hL, ← hW] at hgl
    have hwl : (text W.flatten).length ≤ 600 := by
      have h1 := words_length (rs s.data.toList)
      have h2 := rs_length s.data.toList
      rw [hW]
      omega
    have HGL := Lib.hid hgl
    have HWL := Lib.hid hwl
    obtain ⟨q, hq⟩ : ∃ q, q = L.length := ⟨_, rfl⟩
    have HQ := Lib.hid hq
    obtain ⟨p, hp⟩ : ∃ p, p = W.length := ⟨_, rfl⟩
    have HP := Lib.hid hp
    have hql : q ≤ 302 := by
      have h1 := lines_count s.data.toList (1 + (m : Int)) (by omega)
      have h2 := rs_length s.data.toList
      rw [hq, hL]
      omega
    have hpl : p ≤ 301 := by
      have h1 := split_count (rs s.data.toList)
      have h2 := rs_length s.data.toList
      rw [hp, hW]
      omega
    rw [← hq] at T1
    rw [← hp] at T2
    have e1 : decide ((M.length : Int) ≤ 1) = true := decide_eq_true (by omega)
    have e2 : decide (M.length ≤ 1) = true := decide_eq_true hM1
    clear hL hW hM hM1 hlf hgl hwl hq hp hs hg hsl
    go_enter Tryd.func6, Tryd.ntmps6
    go_wp2_with fail
    refine (T1.out _ (HLIM.out _ (Below.refl _ _))).mono ?_
    rintro e w1 ⟨ao, c, rfl, hsr1, hb1⟩
    have HW1 := Lib.hid hb1
    have HS1 := Lib.hid hsr1
    clear hb1 hsr1
    go_wp2_with fail
    go_loopw [5, 27] (fun a i wr => ∃ k : Nat, k ≤ q ∧ i = .int .i64 k ∧ a = .string (tx (gath (L.take k))) ∧ StrsR wr ao (wordsT L) ∧ Below w.heap.size w wr) (fun _ i _ => q - (intOf i).toNat)
    case atStart => exact ⟨0, Nat.zero_le _, rfl, rfl, HS1.out, HW1.out⟩
    case round =>
      clear HS1 HW1
      obtain ⟨k, hk, rfl, rfl, hsr, hbel⟩ := hrel
      have HS := Lib.hid hsr
      have HB := Lib.hid hbel
      by_cases hlt : k < q
      · obtain ⟨v, hv⟩ : ∃ v, L[k]? = some v := ⟨_, List.getElem?_eq_getElem (show k < L.length by have := HQ.out; omega)⟩
        obtain ⟨b, o, rfl, hbb, hcell⟩ := hsr (by rw [wordsT_length]; have := HQ.out; omega)
        have hc1 := hcell k (tx (text v)) (by simp [wordsT, hv])
        obtain ⟨f1, f2, f3⟩ := HLF.out v (List.mem_of_getElem? hv)
        have hvl : (text v).length ≤ 42 := by have := (text_length v).2; omega
        obtain ⟨S, hS⟩ : ∃ S, S = split v := ⟨_, rfl⟩
        have T4 := Lib.hid (fun u => count_any (tx (text v)) (v.length : Int) u (by rw [tx_list, count, rs_text v f3]) (by rw [tx_size]; omega))
        have T5 := Lib.hid (fun u => split_any (tx (text v)) u S (by rw [tx_list, rs_text v f3]; exact hS) (by rw [tx_size]; omega))
        have HNX := Lib.hid (show gath (L.take (k + 1)) = gath (L.take k) ++ text S.flatten by rw [hS]; exact gath_next L k v hv)
        have HTOT := Lib.hid (show (gath (L.take (k + 1))).length ≤ 600 by
          have h1 := gath_length L (k + 1)
          rw [HGL.out] at h1
          have := HWL.out
          omega)
        obtain ⟨sl, hsl⟩ : ∃ sl, sl = S.length := ⟨_, rfl⟩
        have HSL := Lib.hid hsl
        have hsl2 : sl ≤ 22 := by
          have := split_count v
          rw [hsl, hS]
          omega
        rw [← hsl] at T5
        generalize hvn : v.length = vn at *
        have g1 : decide ((vn : Int) < 1) = false := decide_eq_false (by omega)
        have g2 : decide (1 + (m : Int) < (vn : Int)) = false := decide_eq_false (by omega)
        have g3 : decide (vn < 1) = false := decide_eq_false (by omega)
        have g4 : decide (1 + m < vn) = false := decide_eq_false (by omega)
        generalize tx (text v) = V at *
        generalize gath (L.take k) = G at *
        clear hv hcell hsr hbel hS hvl f3 hsl hvn f1 f2
        go_wp2_with fail
        refine (T4.out _).mono ?_
        rintro e w2 ⟨rfl, hb2⟩
        have HS2 := Lib.hid (HS.out.below hb2)
        have HB2 := Lib.hid (HB.out.trans (hb2.mono HB.out.size))
        clear hb2 HS HB hc1
        go_wp2_with fail
        refine (T5.out _).mono ?_
        rintro e w3 ⟨v5, rfl, hown, hb3⟩
        have HS3 := Lib.hid (HS2.out.below hb3)
        have HB3 := Lib.hid (HB2.out.trans (hb3.mono HB2.out.size))
        obtain ⟨a3, c3, rfl, -, -, hrow⟩ := Strs.own_slice hown
        have HROW := Lib.hid hrow
        clear hb3 HS2 HB2 hown hrow
        go_wp2_with fail
        go_loopw [5, 43] (fun a i wi => ∃ j : Nat, j ≤ sl ∧ i = .int .i64 j ∧ a = .string (tx (G ++ text (S.take j).flatten)) ∧ w3 = wi) (fun _ i _ => sl - (intOf i).toNat)
        case atStart => exact ⟨0, Nat.zero_le _, rfl, by rw [List.take_zero]; show _ = Value.string (tx (G ++ [])); rw [List.append_nil], rfl⟩
        case round =>
          obtain ⟨j, hj, rfl, rfl, rfl⟩ := hrel
          by_cases hlt2 : j < sl
          · obtain ⟨x, hx⟩ : ∃ x, S[j]? = some x := ⟨_, List.getElem?_eq_getElem (show j < S.length by have := HSL.out; omega)⟩
            obtain ⟨gb, rfl, -, -, hcl⟩ := HROW.out j _ (Strs.strsV_at (by simp [wordsT, hx]) : (Strs.strsV (wordsT S))[j]? = some (.string (tx (text x))))
            have hj2 : tx (G ++ text (S.take j).flatten) ++ tx (text x) = tx (G ++ text (S.take (j + 1)).flatten) := by rw [tx_append, List.append_assoc, ← flat_next S j x hx]
            have hbig : ¬ 9223372036854775807 < (tx (G ++ text (S.take j).flatten)).size + (tx (text x)).size := by
              have h1 := flat_length S (j + 1)
              rw [flat_next S j x hx, List.length_append] at h1
              have h2 := HTOT.out
              rw [HNX.out, List.length_append] at h2
              rw [tx_size, tx_size, List.length_append]
              omega
            generalize tx (G ++ text (S.take j).flatten) = X at *
            generalize tx (text x) = Y at *
            generalize hZ : tx (G ++ text (S.take (j + 1)).flatten) = Z at *
            have HZ := Lib.hid hZ
            clear hx hZ
            go_wp2
            go_roundw
            case rel => exact ⟨j + 1, by omega, by go_num, by rw [HZ.out], by first | rfl | trivial⟩
            case measure => simp [intOf]; omega
          · obtain rfl : j = sl := by omega
            have hE : tx (G ++ text (S.take j).flatten) = tx (gath (L.take (k + 1))) := by rw [HNX.out, List.take_of_length_le (by have := HSL.out; omega)]
            rw [hE]
            clear hE
            go_wp2
            go_roundw
            case rel => exact ⟨k + 1, by omega, by go_num, rfl, HS3.out, HB3.out⟩
            case measure => simp [intOf]; omega
      · obtain rfl : k = q := by omega
        have hE : tx (gath (L.take k)) = tx (text W.flatten) := by rw [List.take_of_length_le (by have := HQ.out; omega), HGL.out]
        rw [hE]
        clear hE hsr hbel HS
        obtain ⟨Z, hZ⟩ : ∃ Z, Z = tx (text W.flatten) := ⟨_, rfl⟩
        rw [← hZ]
        have HZ := Lib.hid hZ
        clear hZ
        go_wp2_with fail
        refine (T2.out _).mono ?_
        rintro e w2 ⟨v2, rfl, hown, hb2⟩
        have HB2 := Lib.hid (HB.out.trans (hb2.mono HB.out.size))
        obtain ⟨a3, c3, rfl, -, -, hrow⟩ := Strs.own_slice hown
        have HROW := Lib.hid hrow
        clear hb2 HB hown hrow
        go_wp2_with fail
        go_loopw [6, 55] (fun a i wi => ∃ j : Nat, j ≤ p ∧ i = .int .i64 j ∧ a = .string (tx (text (W.take j).flatten)) ∧ w2 = wi) (fun _ i _ => p - (intOf i).toNat)
        case atStart => exact ⟨0, Nat.zero_le _, rfl, rfl, rfl⟩
        case round =>
          obtain ⟨j, hj, rfl, rfl, rfl⟩ := hrel
          by_cases hlt2 : j < p
          · obtain ⟨x, hx⟩ : ∃ x, W[j]? = some x := ⟨_, List.getElem?_eq_getElem (show j < W.length by have := HP.out; omega)⟩
            obtain ⟨gb, rfl, -, -, hcl⟩ := HROW.out j _ (Strs.strsV_at (by simp [wordsT, hx]) : (Strs.strsV (wordsT W))[j]? = some (.string (tx (text x))))
            have hj2 : tx (text (W.take j).flatten) ++ tx (text x) = tx (text (W.take (j + 1)).flatten) := by rw [tx_append, ← flat_next W j x hx]
            have hbig : ¬ 9223372036854775807 < (tx (text (W.take j).flatten)).size + (tx (text x)).size := by
              have h1 := flat_length W (j + 1)
              rw [flat_next W j x hx, List.length_append] at h1
              have h2 := HWL.out
              rw [tx_size, tx_size]
              omega
            generalize tx (text (W.take j).flatten) = X at *
            generalize tx (text x) = Y at *
            generalize hV : tx (text (W.take (j + 1)).flatten) = V at *
            have HV := Lib.hid hV
            clear hx hV
            go_wp2
            go_roundw
            case rel => exact ⟨j + 1, by omega, by go_num, by rw [HV.out], by first | rfl | trivial⟩
            case measure => simp [intOf]; omega
          · obtain rfl : j = p := by omega
            have hE : tx (text (W.take j).flatten) = Z := by rw [HZ.out, List.take_of_length_le (by have := HP.out; omega)]
            rw [hE]
            clear hE
            go_wp2_with fail
            refine (T3.out _ (HLIM.out _ HB2.out)).mono ?_
            rintro e w4 ⟨a4, c4, rfl, -, hb4⟩
            have HB4 := Lib.hid (HB2.out.trans (hb4.mono HB2.out.size))
            clear hb4
            go_wp2_with fail
            refine (RA.out _ (HLIM.out _ HB4.out)).mono ?_
            rintro e w5 ⟨rfl, hb5⟩
            have HB5 := Lib.hid (HB4.out.trans (hb5.mono HB4.out.size))
            clear hb5
            go_wp2
            go_ret
            exact ⟨rfl, HB5.out⟩

set_option maxRecDepth 100000 in
theorem lifted (os : Os) (started : os.Started) (H : Type) (enc : TypeId × Value → H) :
    ReturnsInHanded {} Tryd.checked os 6 .any (fun w args => (Rows.phraseWrapsSpec.pre enc Tryd.prog Tryd.f6 [] false w args ∧ laidMetH Tryd.prog laidL w) ∧ sizedMet enc Tryd.prog Tryd.f6 (OpenSpec.ofChange Rows.phraseWrapsSpec) false w args)
      (Rows.phraseWrapsSpec.post enc Tryd.prog Tryd.f6 false true false false) := by
  refine in_shape own started (by kernel_rfl) Tryd.func6
    (ChangeSpec.witness_shaped (enc := enc) (C := Tryd.checked) (os := os) (X := fun w _ => laidMetH Tryd.prog laidL w) false (World.laidAll Tryd.prog os laidL) #[.string ByteArray.empty, .int .i64 0] 8 (World.laidAll_os _ _ _) (table_shaped os _) (by kernel_rfl) (by kernel_rfl) (by kernel_rfl) (table_met os _)) ?_
  intro W base args ds gs before hval0 hW hsz0 hL
  have hval : ∀ (j : Nat) t v, Tryd.f6.params[j]? = some t → args[j]? = some v → Value.okWide Tryd.prog W .any base t v := hval0
  have hsz : (DataW.weightsEach Tryd.prog (Tryd.f6.params.toList ++ Rows.phraseWrapsSpec.plain.varTypes Tryd.prog) (ds ++ gs)).all (· ≤ reachBytes) = true := hsz0
  clear hsz0
  have hW' := hW
  obtain ⟨p, q, hA0, hV, rfl, hfz, hnd⟩ := hW
  have hA : DataW.TrodAll enc Tryd.prog W 0 (fun _ => true) true Tryd.f6.params.toList args.toList ds p := hA0
  rw [Tryd.params6] at hA hval hsz
  obtain ⟨v0, vs0, d0, ds0, p0, q0, hargs, rfl, rfl, h0, r0⟩ := trodAll_cons hA
  obtain ⟨v1, vs1, d1, ds1, p1, q1, rfl, rfl, rfl, h1, r1⟩ := trodAll_cons r0
  obtain ⟨rfl, rfl, rfl⟩ := trodAll_nil r1
  obtain rfl : args = #[v0, v1] := by cases args; simp_all
  obtain ⟨rfl, rfl⟩ := trodVars_none hV
  obtain ⟨s0, rfl, rfl, rfl, w0⟩ := open_string Tryd.underlying9 (hval 0 9 v0 rfl rfl) h0
  have z0 := reach_le (sized_string hsz (j := 0) (t := 9) (bytes := s0.data.toList) rfl rfl)
  obtain ⟨n1, rfl, rfl, rfl, w1⟩ := open_int Tryd.underlying3 (hval 1 3 v1 rfl rfl) h1
  have b1 := int_range w1
  have hcl := lim_shaped hL
  clear hA0 hval0
  refine (walk s0 n1 W z0 b1 hcl).mono fun e W' ⟨he, bel⟩ => ?_
  subst he
  exact ⟨_, rfl, _, _, _, [], _, [], hW', trodAll_mk1 (shut_bool Tryd.underlying4 _), (trodAll_cons_mk (shut_string Tryd.underlying9 w0) (trodAll_cons_mk (shut_int Tryd.underlying3 w1) trodAll_mk0)), rfl, bel.frame _, fun h => by cases h⟩

theorem over : Rows.PhraseWrapsSaid :=
  OpenClaim.holds_of_wide 6 Tryd.f6 rfl rfl rfl rfl rfl rfl rfl ⟨rfl, rfl, rfl, rfl, rfl⟩ rfl rfl rfl rfl rfl (by kernel_rfl) Tryd.func6 (by kernel_rfl)
    (of_decide_eq_true (by kernel_rfl)) (by unfold Func.isWrapper; first | (rw [if_pos (by decide +kernel)]; kernel_rfl) | (rw [if_neg (by decide +kernel)]; exact ⟨rfl, rfl⟩))
    (fun os started H enc _ => lifted os started H enc)

theorem proved : Rows.PhraseWrapsCardSaid :=
  Claim7.holds_tied_plain_at .later [] [.data, .pinned] true Rows.phraseWrapsCard.stood.harness false
    over (fun _ h => by cases h) (by kernel_rfl) (fun _ h => by cases h) phraseWraps_row_tie rfl ⟨rfl, rfl⟩ (by kernel_rfl) rfl
    (fun f fn hf hfn => by
      obtain rfl : f = 6 := Option.some.inj ((show Tryd.prog.funcNamed "murmur/murmurlaw11.PhraseWraps" = some 6 by kernel_rfl).symm.trans hf) |>.symm
      obtain rfl : fn = Tryd.f6 := (Option.some.inj (Tryd.func6.symm.trans hfn)).symm
      exact ⟨by kernel_rfl, fun j t ht => by
        rw [Tryd.params6] at ht
        have hm : t ∈ [9, 3] := by simpa using Array.mem_of_getElem? ht
        have hall : ([9, 3].all fun u => !Tryd.prog.wantsStandIn u) = true := by kernel_rfl
        exact (show Tryd.prog.wantsStandIn t = false by simpa using List.all_eq_true.1 hall t hm)⟩)
    (by kernel_rfl)
#print axioms proved
end Go.Proofs.YthlhhmhldpmpiaaDoor.LawWr
