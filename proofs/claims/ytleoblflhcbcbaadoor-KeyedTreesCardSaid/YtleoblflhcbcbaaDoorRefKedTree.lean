/-
  The document's own answers for Step, Chain, Leaf and Tree of layer 3 answer what the plain mathematics of the text Ked says, and leave all memory that was there as it was. Condition: the key has no more than 400000 bytes.
-/
import Derived.Test.YtleoblflhcbcbaaDoorRefKed
import Derived.Test.YtleoblflhcbcbaaDoorKedChain
import Derived.Test.YtleoblflhcbcbaaDoorKedLeaf
namespace Go.Proofs.YtleoblflhcbcbaaDoor.RefKed
open Go.RowKit Mur Sha Ked

set_option maxHeartbeats 800000 in
theorem step_any (k A B : ByteArray) (w : World) (hk : k.size ≤ 400000) (hA : A = tx (mac k.data.toList nextT)) (hB : B = tx (mac k.data.toList outT)) :
    Calls Tryd.prog 18 #[.string k] w fun e w' => e = .returned (.tuple #[.string A, .string B]) ∧ Below w.heap.size w w' := by
  have H1 := Lib.hid (fun u => mac_any k ⟨#[110, 101, 120, 116]⟩ A u (by omega) (by decide) hA)
  have H2 := Lib.hid (fun u => mac_any k ⟨#[111, 117, 116]⟩ B u (by omega) (by decide) hB)
  clear hA hB
  go_enter Tryd.func18, Tryd.ntmps18
  go_wp2_with fail
  refine (H1.out _).mono ?_
  rintro e w1 ⟨rfl, hb1⟩
  have HB1 := Lib.hid hb1
  clear hb1
  go_wp2_with fail
  refine (H2.out _).mono ?_
  rintro e w2 ⟨rfl, hb2⟩
  go_wp2
  go_ret2
  exact ⟨rfl, HB1.out.trans (hb2.mono HB1.out.size)⟩

set_option maxHeartbeats 1600000 in
theorem chain_any (k : ByteArray) (n : Int) (w : World) (hk : k.size ≤ 400000) :
    Calls Tryd.prog 21 #[.string k, .int .i64 n] w fun e w' => ∃ v, e = .returned v ∧ w'.ownsRow w.heap.size 9 1 v (manyKeys n) (Strs.strsV ((chain k.data.toList (manyKeys n)).map tx)) ∧ Below w.heap.size w w' := by
  obtain ⟨N, hN⟩ : ∃ N : Nat, N = manyKeys n := ⟨_, rfl⟩
  have hN2 : N ≤ 200 := by rw [hN]; exact manyKeys_le n
  have hmin : max 0 (min n 200) = (N : Int) := by rw [hN]; unfold manyKeys; omega
  rw [← hN]
  have HMIN := Lib.hid hmin
  have HK := Lib.hid hk
  clear hN hmin hk
  go_enter Tryd.func21, Tryd.ntmps21
  have hmin := HMIN.out
  go_wp2_with fail
  clear hmin HMIN
  go_loopw [0, 5, 11] (fun kv v i wr => ∃ q : Nat, q ≤ N ∧ i = .int .i64 q ∧ kv = .string (tx (chainKey k.data.toList q)) ∧ wr.ownsRow w.heap.size 9 1 v q (Strs.strsV ((chain k.data.toList q).map tx)) ∧ Below w.heap.size w wr) (fun _ _ i _ => N - (intOf i).toNat)
  case atStart => exact ⟨0, by omega, rfl, rfl, World.ownsRow_nil _ _ _ _, Below.refl _ _⟩
  case round =>
    obtain ⟨q, hq, rfl, rfl, hown, hbel⟩ := hrel
    have HOWN := Lib.hid hown
    have HW := Lib.hid hbel
    clear hown hbel
    by_cases hlt : q < N
    · obtain ⟨K, hK⟩ : ∃ K, K = tx (chainKey k.data.toList q) := ⟨_, rfl⟩
      obtain ⟨A, hA⟩ : ∃ A, A = tx (mac K.data.toList nextT) := ⟨_, rfl⟩
      obtain ⟨B, hB⟩ : ∃ B, B = tx (mac K.data.toList outT) := ⟨_, rfl⟩
      have hKs : K.size ≤ 400000 := by
        rw [hK]; exact chainKey_size _ _ _ HK.out (by omega)
      have hst := Lib.hid (fun u => step_any K A B u hKs hA hB)
      have hA2 : A = tx (chainKey k.data.toList (q + 1)) := by rw [hA, hK]; rfl
      have hB2 : (chain k.data.toList (q + 1)).map tx = (chain k.data.toList q).map tx ++ [B] := by rw [chain_succ, List.map_append, hB, hK]; rfl
      have HA2 := Lib.hid hA2
      have HB2 := Lib.hid hB2
      clear hA2 hB2 hA hB hKs
      rw [← hK]
      clear hK
      go_wp2_with fail
      refine (hst.out _).mono ?_
      rintro e w2 ⟨rfl, hb2⟩
      have HOWN2 := Lib.hid (Strs.own_below HOWN.out hb2)
      have HW2 := Lib.hid (HW.out.trans (hb2.mono HW.out.size))
      clear hb2 HOWN HW
      go_wp2_with (at_builtin; refine Strs.append_strs rfl _ _ rfl w.heap.size q _ ((chain k.data.toList q).map tx) rfl (HOWN2.out.alloc _) w2.heap.size 1 1 [B] rfl rfl (Strs.new_one _ _ _) (by omega) (Nat.le_trans HW2.out.size (by simp)) ?_)
      intro v' w4 hown4 hgrow4
      have HW4 := Lib.hid ((HW2.out.alloc HW2.out.size (.cells #[.string B] 9)).grown hgrow4 (Nat.le_trans HW2.out.size (by simp)) (fun j hj => (HOWN2.out.lt j hj).1))
      rw [← HB2.out] at hown4
      have HOWN4 := Lib.hid hown4
      clear hown4 hgrow4 HOWN2 HW2
      go_wp2
      go_roundw
      case rel => exact ⟨q + 1, by omega, by go_num, by rw [HA2.out], HOWN4.out, HW4.out⟩
      case measure => simp [intOf]; omega
    · obtain rfl : q = N := by omega
      go_wp2
      go_ret
      exact ⟨_, rfl, HOWN.out, HW.out⟩

set_option maxHeartbeats 1600000 in
theorem leaf_any (k X : ByteArray) (i h : Nat) (w : World) (hk : k.size ≤ 400000) (hh : h ≤ 30) (hi : i < 2 ^ h) (hX : X = tx (leaf k.data.toList i h)) :
    Calls Tryd.prog 23 #[.string k, .int .i64 i, .int .i64 h] w fun e w' => e = .returned (.string X) ∧ Below w.heap.size w w' := by
  have hd1 : decide ((h : Int) < 0) = false := by simp
  have hd2 : decide (30 < (h : Int)) = false := by simp; omega
  have hd3 : decide ((i : Int) < 0) = false := by simp
  have hp : 2 ^ h ≤ 2 ^ 30 := Nat.pow_le_pow_right (by omega) hh
  have hpi : ((2 ^ h : Nat) : Int) = (2 : Int) ^ h := by rw [Int.natCast_pow]; rfl
  have HX := Lib.hid hX
  clear hX
  go_enter Tryd.func23, Tryd.ntmps23
  go_wp2_with fail
  clear hd1 hd2 hd3
  go_loopw [0, 7] (fun kv j wr => ∃ q : Nat, q ≤ h ∧ j = .int .i64 ((h : Int) - 1 - (q : Int)) ∧ kv = .string (tx (down k.data.toList i h q)) ∧ Below w.heap.size w wr) (fun _ j _ => (intOf j + 1).toNat)
  case atStart => exact ⟨0, by omega, by simp, rfl, Below.refl _ _⟩
  case round =>
    obtain ⟨q, hq, rfl, rfl, hbel⟩ := hrel
    have HW := Lib.hid hbel
    clear hbel
    by_cases hlt : q < h
    · obtain ⟨j, hj⟩ : ∃ j : Nat, j = h - 1 - q := ⟨_, rfl⟩
      have hji : (h : Int) - 1 - (q : Int) = (j : Int) := by omega
      have hj30 : j ≤ 29 := by omega
      obtain ⟨K, hK⟩ : ∃ K, K = tx (down k.data.toList i h q) := ⟨_, rfl⟩
      have hKs : K.size ≤ 400000 := by rw [hK]; exact down_size _ _ _ _ _ hk (by omega)
      obtain ⟨b, hb⟩ : ∃ b, b = i / 2 ^ j % 2 := ⟨_, rfl⟩
      have hb2 : b < 2 := by omega
      have hbit : bits .and .i64 ((i : Int) / 2 ^ j) 1 = (b : Int) := by
        have e : (i : Int) / 2 ^ j = ((i / 2 ^ j : Nat) : Int) := by rw [Int.natCast_ediv, Int.natCast_pow]; rfl
        have hi2 : i / 2 ^ j ≤ i := Nat.div_le_self _ _
        rw [e, and_one _ (by omega), ← hb]
      obtain ⟨B, hB⟩ : ∃ B, B = tx (side K.data.toList b) := ⟨_, rfl⟩
      have hB2 : B = tx (down k.data.toList i h (q + 1)) := by rw [hB, hK, down, hb, hj]
      have HB2 := Lib.hid hB2
      have HJI := Lib.hid hji
      have hms : Hid (if b = 0 then (∀ u, Calls Tryd.prog 9 #[.string K, .string ⟨#[108, 101, 102, 116]⟩] u fun e w' => e = .returned (.string B) ∧ Below u.heap.size u w') else (∀ u, Calls Tryd.prog 9 #[.string K, .string ⟨#[114, 105, 103, 104, 116]⟩] u fun e w' => e = .returned (.string B) ∧ Below u.heap.size u w')) := Lib.hid (by
        split
        · rename_i h0
          subst h0
          exact fun u => mac_any K ⟨#[108, 101, 102, 116]⟩ B u (by omega) (by decide) hB
        · rename_i h0
          have : b = 1 := by omega
          subst this
          exact fun u => mac_any K ⟨#[114, 105, 103, 104, 116]⟩ B u (by omega) (by decide) hB)
      have HBIT := Lib.hid hbit
      have h0j : 0 ≤ (j : Int) := by omega
      have hc0 : decide (0 ≤ (j : Int)) = true := by simp
      rw [hji, ← hK]
      clear hB hB2 hK hKs hb hbit hj hji
      by_cases hb0 : b = 0
      · have hm := hms.out
        rw [if_pos hb0] at hm
        have HM := Lib.hid hm
        have hbt : ((b : Int) == 1) = false := by rw [hb0]; rfl
        have hbt2 : (bits .and .i64 ((i : Int) / 2 ^ j) 1 == 1) = false := by rw [HBIT.out]; exact hbt
        clear hm hms hb0 hbt HBIT
        go_wp2_with fail
        refine (HM.out _).mono ?_
        rintro e w2 ⟨rfl, hb2⟩
        have HW2 := Lib.hid (HW.out.trans (hb2.mono HW.out.size))
        clear hb2
        go_wp2
        go_roundw
        case rel => exact ⟨q + 1, by omega, by have := HJI.out; congr 1; omega, by rw [HB2.out], HW2.out⟩
        case measure => simp [intOf]
      · have hm := hms.out
        rw [if_neg hb0] at hm
        have HM := Lib.hid hm
        have hb1 : b = 1 := by omega
        have hbt2 : (bits .and .i64 ((i : Int) / 2 ^ j) 1 == 1) = true := by rw [HBIT.out, hb1]; rfl
        clear hm hms hb0 hb1 HBIT
        go_wp2_with fail
        refine (HM.out _).mono ?_
        rintro e w2 ⟨rfl, hb2⟩
        have HW2 := Lib.hid (HW.out.trans (hb2.mono HW.out.size))
        clear hb2
        go_wp2
        go_roundw
        case rel => exact ⟨q + 1, by omega, by have := HJI.out; congr 1; omega, by rw [HB2.out], HW2.out⟩
        case measure => simp [intOf]
    · obtain rfl : q = h := by omega
      have hd : decide (0 ≤ (q : Int) - 1 - (q : Int)) = false := by simp; omega
      go_wp2
      go_ret
      exact ⟨by rw [HX.out]; rfl, HW.out⟩

set_option maxHeartbeats 800000 in
theorem leaf_none (k : ByteArray) (i h : Int) (w : World) (hh : h < 0 ∨ 30 < h ∨ i < 0 ∨ 2 ^ h.toNat ≤ i) :
    Calls Tryd.prog 23 #[.string k, .int .i64 i, .int .i64 h] w fun e w' => e = .returned (.string ⟨#[]⟩) ∧ Below w.heap.size w w' := by
  by_cases c1 : h < 0
  · have hd1 : decide (h < 0) = true := by simp; omega
    clear hh
    go_enter Tryd.func23, Tryd.ntmps23
    go_wp2
    go_ret
    exact ⟨rfl, Below.refl _ _⟩
  have hd1 : decide (h < 0) = false := by simp; omega
  by_cases c2 : 30 < h
  · have hd2 : decide (30 < h) = true := by simp; omega
    clear hh
    go_enter Tryd.func23, Tryd.ntmps23
    go_wp2
    go_ret
    exact ⟨rfl, Below.refl _ _⟩
  have hd2 : decide (30 < h) = false := by simp; omega
  by_cases c3 : i < 0
  · have hd3 : decide (i < 0) = true := by simp; omega
    clear hh
    go_enter Tryd.func23, Tryd.ntmps23
    go_wp2
    go_ret
    exact ⟨rfl, Below.refl _ _⟩
  have hd3 : decide (i < 0) = false := by simp; omega
  have hg : 2 ^ h.toNat ≤ i := by omega
  obtain ⟨m, rfl⟩ : ∃ m : Nat, h = (m : Int) := ⟨h.toNat, by omega⟩
  have hp : 2 ^ m ≤ 2 ^ 30 := Nat.pow_le_pow_right (by omega) (by omega)
  have hpi : ((2 ^ m : Nat) : Int) = (2 : Int) ^ m := by rw [Int.natCast_pow]; rfl
  have hg2 : (2 : Int) ^ m ≤ i := by simpa using hg
  have hd4 : decide ((2 : Int) ^ m ≤ i) = true := by simp; omega
  have hlow : (2 : Int) ^ m ≤ 1073741824 := by rw [← hpi]; omega
  have hpos : (0 : Int) ≤ (2 : Int) ^ m := by rw [← hpi]; exact Int.natCast_nonneg _
  clear hh hg hpi hp
  go_enter Tryd.func23, Tryd.ntmps23
  go_wp2
  go_ret
  exact ⟨rfl, Below.refl _ _⟩

set_option maxHeartbeats 3200000 in
theorem tree_any (k : ByteArray) (h : Nat) (w : World) (hk : k.size ≤ 400000) (hh : h ≤ 8) :
    Calls Tryd.prog 25 #[.string k, .int .i64 h] w fun e w' => ∃ v, e = .returned v ∧ w'.ownsRow w.heap.size 9 1 v (2 ^ h) (Strs.strsV ((tree k.data.toList h).map tx)) ∧ Below w.heap.size w w' := by
  have hd1 : decide ((h : Int) < 0) = false := by simp
  have hd2 : decide (8 < (h : Int)) = false := by simp; omega
  have hown0 : (w.alloc (.cells #[.string k] 9)).ownsRow w.heap.size 9 1 (.slice (some ⟨w.heap.size, 0, none⟩) 1 1) 1 (Strs.strsV ((tree k.data.toList 0).map tx)) :=
    ⟨rfl, .inr ⟨w.heap.size, 1, _, rfl, Nat.le_refl _, _root_.Go.heap_alloc_new w _, Nat.le_refl _, by unfold maxLen; omega, rfl, rfl⟩⟩
  have HOWN0 := Lib.hid hown0
  clear hown0
  go_enter Tryd.func25, Tryd.ntmps25
  go_wp2_with fail
  clear hd1 hd2
  go_loopw [5, 18] (fun v i wr => ∃ q g c : Nat, q ≤ h ∧ i = .int .i64 q ∧ v = .slice (some ⟨g, 0, none⟩) (2 ^ q) c ∧ wr.ownsRow w.heap.size 9 1 (.slice (some ⟨g, 0, none⟩) (2 ^ q) c) (2 ^ q) (Strs.strsV ((tree k.data.toList q).map tx)) ∧ Below w.heap.size w wr) (fun _ i _ => h - (intOf i).toNat)
  case atStart => exact ⟨0, w.heap.size, 1, by omega, rfl, rfl, HOWN0.out, (Below.refl _ _).alloc (Nat.le_refl _) _⟩
  case round =>
    clear HOWN0
    obtain ⟨q, g, c, hq, rfl, rfl, hown, hbel⟩ := hrel
    have HOWN := Lib.hid hown
    have HW := Lib.hid hbel
    clear hown hbel
    obtain ⟨wo, rfl⟩ : ∃ wo, wo = wr := ⟨wr, rfl⟩
    by_cases hlt : q < h
    · have hp8 : 2 ^ q ≤ 2 ^ 8 := Nat.pow_le_pow_right (by omega) (by omega)
      obtain ⟨l, hl⟩ : ∃ l, l = tree k.data.toList q := ⟨_, rfl⟩
      obtain ⟨p, hp⟩ : ∃ p, p = 2 ^ q := ⟨_, rfl⟩
      have hp2 : p ≤ 256 := by omega
      have hp1 : 0 < p := by rw [hp]; exact Nat.two_pow_pos q
      have hpow : 2 ^ (q + 1) = 2 * p := by rw [hp, Nat.pow_succ]; omega
      have hll : l.length = p := by rw [hl, hp, tree_length]
      have hsz : ∀ x ∈ l, x.length ≤ 400000 := by rw [hl]; exact tree_sizes _ _ q hk (by omega)
      have hnext : tree k.data.toList (q + 1) = beneath l := by rw [hl]; rfl
      have HPOW := Lib.hid hpow
      have HLL := Lib.hid hll
      have HSZ := Lib.hid hsz
      have HNEXT := Lib.hid hnext
      rw [← hl, ← hp] at HOWN
      rw [← hp]
      clear hp hp8 hl hpow hll hsz hnext
      go_wp2_with fail
      go_loopw [6, 22] (fun v i wr2 => ∃ m : Nat, m ≤ p ∧ i = .int .i64 m ∧ wr2.ownsRow wo.heap.size 9 1 v (2 * m) (Strs.strsV ((beneath (l.take m)).map tx)) ∧ Below wo.heap.size wo wr2) (fun _ i _ => p - (intOf i).toNat)
      case atStart => exact ⟨0, by omega, rfl, World.ownsRow_nil _ _ _ _, Below.refl _ _⟩
      case round =>
        obtain ⟨m, hm, rfl, hown, hbel⟩ := hrel
        have HO := Lib.hid hown
        have HB := Lib.hid hbel
        clear hown hbel
        by_cases hlt2 : m < p
        · have hml : m < l.length := by rw [HLL.out]; exact hlt2
          have hcc := (HB.out.cell (p := ⟨g, m, none⟩) (HOWN.out.lt g rfl).2).trans (Strs.own_cell HOWN.out m (.string (tx l[m])) (Strs.strsV_at (by rw [List.getElem?_map, List.getElem?_eq_getElem hml]; rfl)))
          obtain ⟨K, hK⟩ : ∃ K, K = tx l[m] := ⟨_, rfl⟩
          have hKs : K.size ≤ 400000 := by rw [hK]; exact HSZ.out _ (List.getElem_mem hml)
          obtain ⟨A, hA⟩ : ∃ A, A = tx (side K.data.toList 0) := ⟨_, rfl⟩
          obtain ⟨B, hB⟩ : ∃ B, B = tx (side K.data.toList 1) := ⟨_, rfl⟩
          have h0 := Lib.hid (fun u => mac_any K ⟨#[108, 101, 102, 116]⟩ A u (by omega) (by decide) hA)
          have h1 := Lib.hid (fun u => mac_any K ⟨#[114, 105, 103, 104, 116]⟩ B u (by omega) (by decide) hB)
          have hstep : (beneath (l.take (m + 1))).map tx = (beneath (l.take m)).map tx ++ [A, B] := by
            rw [beneath_succ l m hml, List.map_append, hA, hB, hK]; rfl
          have HS := Lib.hid hstep
          rw [← hK] at hcc
          clear hstep hA hB hK hKs hml
          go_wp2_with fail
          refine (h0.out _).mono ?_
          rintro e w2 ⟨rfl, hb2⟩
          have HO2 := Lib.hid (Strs.own_below HO.out hb2)
          have HB2 := Lib.hid (HB.out.trans (hb2.mono HB.out.size))
          clear hb2 HO HB hcc
          go_wp2_with fail
          refine (h1.out _).mono ?_
          rintro e w3 ⟨rfl, hb3⟩
          have HO3 := Lib.hid (Strs.own_below HO2.out hb3)
          have HB3 := Lib.hid (HB2.out.trans (hb3.mono HB2.out.size))
          clear hb3 HO2 HB2
          go_wp2_with (at_builtin; refine Strs.append_strs rfl _ _ rfl wo.heap.size (2 * m) _ ((beneath (l.take m)).map tx) rfl (HO3.out.alloc _) w3.heap.size 2 2 [A, B] rfl rfl (Strs.new_two _ _ _ _) (by omega) (Nat.le_trans HB3.out.size (by simp)) ?_)
          intro v' w4 hown4 hgrow4
          have HB4 := Lib.hid ((HB3.out.alloc HB3.out.size (.cells #[.string A, .string B] 9)).grown hgrow4 (Nat.le_trans HB3.out.size (by simp)) (fun j hj => (HO3.out.lt j hj).1))
          rw [← HS.out] at hown4
          have HO4 := Lib.hid hown4
          clear hown4 hgrow4 HO3 HB3
          go_wp2
          go_roundw
          case rel => exact ⟨m + 1, by omega, by go_num, HO4.out, HB4.out⟩
          case measure => simp [intOf]; omega
        · obtain rfl : m = p := by omega
          have hown := HO.out
          rw [List.take_of_length_le (by have := HLL.out; omega), ← HNEXT.out, ← HPOW.out] at hown
          rcases Strs.own_cases hown with ⟨_, h0, _⟩ | ⟨g2, c2, rfl, -, -, -, -⟩
          · have := HPOW.out; omega
          have HO2 := Lib.hid (Strs.own_mono hown HW.out.size)
          have HW2 := Lib.hid (HW.out.trans (HB.out.mono HW.out.size))
          clear hown HO
          go_wp2
          go_roundw
          case rel => exact ⟨q + 1, g2, c2, by omega, by go_num, rfl, HO2.out, HW2.out⟩
          case measure => simp [intOf]; omega
    · obtain rfl : q = h := by omega
      go_wp2
      go_ret
      exact ⟨_, rfl, HOWN.out, HW.out⟩

set_option maxHeartbeats 400000 in
theorem tree_none (k : ByteArray) (h : Int) (w : World) (hh : h < 0 ∨ 8 < h) :
    Calls Tryd.prog 25 #[.string k, .int .i64 h] w fun e w' => e = .returned (.slice none 0 0) ∧ Below w.heap.size w w' := by
  rcases hh with hh | hh
  · have hd1 : decide (h < 0) = true := by simp; omega
    go_enter Tryd.func25, Tryd.ntmps25
    go_wp2
    go_ret
    exact ⟨rfl, Below.refl _ _⟩
  · have hd1 : decide (h < 0) = false := by simp; omega
    have hd2 : decide (8 < h) = true := by simp; omega
    go_enter Tryd.func25, Tryd.ntmps25
    go_wp2
    go_ret
    exact ⟨rfl, Below.refl _ _⟩
end Go.Proofs.YtleoblflhcbcbaaDoor.RefKed
