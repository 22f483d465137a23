/-
  GroveProves: many leaves, with their proof, come to the root, and the proof is no longer than their paths: for every input, the law answers true and changes nothing that was there. Condition: the constant table lies as the program's text lays it (the card ties it).
-/
import Derived.Test.YtncafbejgidliaaDoorLawPrv
import Derived.Test.YtncafbejgidliaaDoorConstFrame
import Derived.Test.YtncafbejgidliaaDoorCards
import Derived.Test.YtncafbejgidliaaDoorOpen
import Derived.Test.YtncafbejgidliaaDoorTie
import Derived.SevenTiedAt
import Derived.Deep.Grids
namespace Go.Proofs.YtncafbejgidliaaDoor.LawProves
open Go.ChangeShapes Go.WideShapes Go.ChangeAt Go.ChangeMaps Go.RowKit Mur Sha Chn Grv
set_option maxRecDepth 100000

theorem rest_of (x : Int) (q : Nat) (h1 : 0 < q) (h2 : q ≤ 1000) : ∃ m : Nat, m < q ∧ wrap64 ((IntKind.u64.wrap x).tmod (q : Int)) = (m : Int) := by
  rw [IntKind.wrap_u64, Int.tmod_eq_emod_of_nonneg (by omega)]
  have h3 : 0 ≤ x % 18446744073709551616 % (q : Int) := Int.emod_nonneg _ (by omega)
  have h4 : x % 18446744073709551616 % (q : Int) < q := Int.emod_lt_of_pos _ (by omega)
  refine ⟨(x % 18446744073709551616 % (q : Int)).toNat, by omega, ?_⟩
  rw [IntWalk.wrap64_in _ (by omega)]
  omega

/-- A slice of bools that came in. -/
def BoolsR (w : World) (a : Option Addr) (n : Nat) (B : Nat → Bool) : Prop := n ≠ 0 → ∃ b o, a = some ⟨b, o, none⟩ ∧ b < w.heap.size ∧ ∀ i, i < n → w.cell? ⟨b, o + i, none⟩ = some (.bool (B i))

set_option maxHeartbeats 6400000 in
theorem walk (h : Int) (a : Option Addr) (n c : Nat) (B : Nat → Bool) (w : World) (hBo : BoolsR w a n B) (hn : n ≤ 9223372036854775807) (hk : Consts w) :
    Calls Tryd.prog 6 #[.int .i64 h, .slice a n c] w
      fun e w' => e = .returned (.bool true) ∧ Below w.heap.size w w' := by
  obtain ⟨H, hH, hH2⟩ := rest_of h 4 (by omega) (by omega)
  obtain ⟨p, hp⟩ : ∃ p, p = 2 ^ H := ⟨_, rfl⟩
  have hp8 : p ≤ 8 := by rw [hp]; exact Nat.pow_le_pow_right (by omega) (show H ≤ 3 by omega)
  have hpz : (2 : Int) ^ H = (p : Int) := by rw [hp, Int.natCast_pow]; rfl
  have hr : Right ((2 : Nat) : Int) (H : Int) := by unfold Right; omega
  obtain ⟨s, hs⟩ : ∃ s : ByteArray, s = ⟨#[115]⟩ := ⟨_, rfl⟩
  obtain ⟨r, hrr⟩ : ∃ r : ByteArray, r = ⟨#[114]⟩ := ⟨_, rfl⟩
  have hss : s.size + r.size ≤ 2 := by rw [hs, hrr]; decide
  have RL := Lib.hid (fun (k : Nat) (T : ByteArray) (u : World) (hT : T = tx (leafOf 2 s.data.toList r.data.toList (k : Int))) (hu : Consts u) => leaf_any 2 H s r (k : Int) T u hr (by omega) hT hu)
  obtain ⟨L, hL⟩ : ∃ L : Nat → List Nat, L = sel B p := ⟨_, rfl⟩
  obtain ⟨X, hX⟩ : ∃ X : List Nat → List ByteArray, X = texts s.data.toList r.data.toList := ⟨_, rfl⟩
  have HL0 := Lib.hid (show L 0 = [] from by rw [hL]; rfl)
  have HLY := Lib.hid (show ∀ k, B k = true → k < p → L (k + 1) = L k ++ [k] from fun k h1 h2 => by rw [hL]; show sel B p (k + 1) = _; rw [sel, if_pos ⟨h1, h2⟩])
  have HLN := Lib.hid (show ∀ k, ¬ (B k = true ∧ k < p) → L (k + 1) = L k from fun k h1 => by rw [hL]; show sel B p (k + 1) = _; rw [sel, if_neg h1])
  have HLL := Lib.hid (show ∀ k, (L k).length ≤ 8 from fun k => by rw [hL]; have := sel_length B p k; omega)
  have HXN := Lib.hid (show ∀ (l : List Nat) (i : Nat), X (l ++ [i]) = X l ++ [tx (leafOf 2 s.data.toList r.data.toList (i : Int))] from fun l i => by rw [hX]; exact texts_next _ _ l i)
  have HX0 := Lib.hid (show X [] = [] from by rw [hX]; rfl)
  have RA := Lib.hid (fun u hu => awake_any u hu)
  obtain ⟨l, hl⟩ : ∃ l, l = L n := ⟨_, rfl⟩
  have hup : Up l := by rw [hl, hL]; exact sel_up B p n
  have hlt : ∀ x ∈ l, x < 2 ^ H := fun x hx => by rw [hl, hL] at hx; rw [← hp]; exact (sel_lt B p n x hx).2
  have hll : l.length ≤ 8 := by rw [hl]; exact HLL.out n
  obtain ⟨PR, hPR⟩ : ∃ PR : ByteArray, PR = tx (proof 2 H s.data.toList r.data.toList l) := ⟨_, rfl⟩
  obtain ⟨RT, hRT⟩ : ∃ RT : ByteArray, RT = tx (node 2 s.data.toList r.data.toList H 0) := ⟨_, rfl⟩
  have hprl : PR.size ≤ l.length * 2 * H := by rw [hPR]; exact proof_length 2 H _ _ l (by omega)
  have hXs : ∀ x ∈ X l, x.size ≤ 1000000 := by rw [hX]; exact texts_size _ _ l
  have hXl : (X l).length = l.length := by rw [hX]; exact texts_length _ _ l
  have hmany : l ≠ [] → RT = tx (many 2 r.data.toList H 0 (handUp l (X l)) PR.data.toList) := fun hne => by
    rw [hX, texts_hand, hPR, tx_list, many_proof 2 H _ _ l (by omega) hlt hne, hRT]
  have RN := Lib.hid (show ∀ u, Consts u → Calls Tryd.prog 8 #[.agg #[.int .i64 2, .int .i64 (H : Int)], .string ⟨#[115]⟩, .string ⟨#[114]⟩, .agg #[.int .i64 (H : Int), .int .i64 0]] u fun e w' => e = .returned (.string RT) ∧ Below u.heap.size u w' from
    fun u hu => by rw [← hs, ← hrr]; exact node_any 2 H H 0 s r RT u hr (by omega) (Nat.two_pow_pos _) (by omega) hRT hu)
  have RP := Lib.hid (fun (m : Nat) (a1 : Option Addr) (c1 : Nat) (u : World) (hm : l.length = m) (h0 : 0 < m) (hi : IntsR u a1 (zl l)) (hu : Consts u) => show Calls Tryd.prog 16 #[.agg #[.int .i64 2, .int .i64 (H : Int)], .string ⟨#[115]⟩, .string ⟨#[114]⟩, .slice a1 m c1] u fun e w' => e = .returned (.string PR) ∧ Below u.heap.size u w' from by
    rw [← hs, ← hrr]
    exact proof_any 2 H s r PR l m a1 c1 u hr hi hm (by omega) h0 hup hlt (by omega) hPR hu)
  have RM := Lib.hid (fun (m : Nat) (a1 a2 : Option Addr) (c1 c2 : Nat) (u : World) (hm : l.length = m) (h0 : 0 < m) (hi : IntsR u a1 (zl l)) (hi2 : StrsR u a2 (X l)) (hu : Consts u) => show Calls Tryd.prog 17 #[.agg #[.int .i64 2, .int .i64 (H : Int)], .string ⟨#[114]⟩, .slice a1 m c1, .slice a2 m c2, .string PR] u fun e w' => e = .returned (.string RT) ∧ Below u.heap.size u w' from by
    rw [← hrr]
    exact many_any 2 H r PR RT l (X l) m a1 a2 c1 c2 u hr hi hi2 hm (by omega) (by rw [hXl, hm]) h0 hup hlt hXs (by omega) (hmany (by intro e; rw [e] at hm; simp at hm; omega)) hu)
  have RP0 := Lib.hid (fun (a1 : Option Addr) (c1 : Nat) (u : World) => show Calls Tryd.prog 16 #[.agg #[.int .i64 2, .int .i64 (H : Int)], .string ⟨#[115]⟩, .string ⟨#[114]⟩, .slice a1 0 c1] u fun e w' => e = .returned (.string ⟨#[]⟩) ∧ Below u.heap.size u w' from
    proof_no 2 H ⟨#[115]⟩ ⟨#[114]⟩ [] 0 a1 c1 u (fun h => absurd rfl h) rfl (by omega) (fun h => by have := h.2; simp [okL] at this))
  have RM0 := Lib.hid (fun (a1 a2 : Option Addr) (c1 c2 : Nat) (u : World) => show Calls Tryd.prog 17 #[.agg #[.int .i64 2, .int .i64 (H : Int)], .string ⟨#[114]⟩, .slice a1 0 c1, .slice a2 0 c2, .string ⟨#[]⟩] u fun e w' => e = .returned (.string ⟨#[]⟩) ∧ Below u.heap.size u w' from
    many_no 2 H ⟨#[114]⟩ ⟨#[]⟩ [] 0 0 a1 a2 c1 c2 u (fun h => absurd rfl h) rfl (by omega) (fun h => by have := h.2.1; simp [okL] at this))
  have RL2 := Lib.hid (show ∀ (k : Nat) (T : ByteArray) (u : World), T = tx (leafOf 2 s.data.toList r.data.toList (k : Int)) → Consts u → Calls Tryd.prog 14 #[.agg #[.int .i64 2, .int .i64 (H : Int)], .string ⟨#[115]⟩, .string ⟨#[114]⟩, .int .i64 (k : Int)] u fun e w' => e = .returned (.string T) ∧ Below u.heap.size u w' from
    fun k T u hT hu => by rw [← hs, ← hrr]; exact RL.out k T u hT hu)
  have HBO := Lib.hid hBo
  have HM2 := Lib.hid hH2
  have HPL := Lib.hid hprl
  have HLD := Lib.hid hl
  have HLE := Lib.hid hll
  clear hs hrr hss hr hL hX hp hup hlt hPR hRT hprl hXs hXl hmany hBo hH2 RL hl hll
  have g1 := HM2.out
  rw [show ((4 : Nat) : Int) = 4 from rfl] at g1
  go_enter Tryd.func6, Tryd.ntmps6
  go_upto_region 2 with (fail)
  rw [g1]
  clear g1 HM2
  generalize (IntKind.u64.wrap h).tmod 4 = y2
  generalize IntKind.u64.wrap h = y3
  have hb2 := (Below.refl w.heap.size w).alloc (Nat.le_refl _) (.cells #[.int .i64 2, .int .i64 (H : Int)] 23)
  have hp0 : (w.alloc (.cells #[.int .i64 2, .int .i64 (H : Int)] 23)).cell? ⟨w.heap.size, 0, none⟩ = some (.int .i64 2) := by simp
  have hp1 : (w.alloc (.cells #[.int .i64 2, .int .i64 (H : Int)] 23)).cell? ⟨w.heap.size, 1, none⟩ = some (.int .i64 (H : Int)) := by simp
  have hpl : w.heap.size < (w.alloc (.cells #[.int .i64 2, .int .i64 (H : Int)] 23)).heap.size := by simp
  generalize w.alloc (.cells #[.int .i64 2, .int .i64 (H : Int)] 23) = w2 at *
  have HC := Lib.hid (fun (u : World) (q : Below w2.heap.size w2 u) => (⟨(q.cell (p := ⟨w.heap.size, 0, none⟩) hpl).trans hp0, (q.cell (p := ⟨w.heap.size, 1, none⟩) hpl).trans hp1, hk.below hk.1 (hb2.trans (q.mono hb2.size))⟩ : u.cell? ⟨w.heap.size, 0, none⟩ = some (.int .i64 2) ∧ u.cell? ⟨w.heap.size, 1, none⟩ = some (.int .i64 (H : Int)) ∧ Consts u))
  have HB2 := Lib.hid hb2
  clear hb2 hp0 hp1 hpl hk
  have HO1 := Lib.hid (show w2.ownsRow w2.heap.size 3 1 (.slice none 0 0) 0 (Ints.intsV (L 0)) from by rw [HL0.out]; exact ⟨rfl, .inl ⟨rfl, rfl⟩⟩)
  have HO2 := Lib.hid (show w2.ownsRow w2.heap.size 9 1 (.slice none 0 0) 0 (Strs.strsV (X (L 0))) from by rw [HL0.out, HX0.out]; exact ⟨rfl, .inl ⟨rfl, rfl⟩⟩)
  go_wp2_with fail
  go_loopw [6, 7, 8, 9, 18] (fun v1 v2 _ _ i wr => ∃ k m : Nat, k ≤ n ∧ i = .int .i64 k ∧ (L k).length = m ∧ wr.ownsRow w2.heap.size 3 1 v1 m (Ints.intsV (L k)) ∧ wr.ownsRow w2.heap.size 9 1 v2 m (Strs.strsV (X (L k))) ∧ Below w2.heap.size w2 wr) (fun _ _ _ _ i _ => n - (intOf i).toNat)
  case atStart => exact ⟨0, 0, by omega, rfl, by rw [HL0.out]; rfl, HO1.out, HO2.out, Below.refl _ _⟩
  case round =>
    clear HO1 HO2
    obtain ⟨k, m, hkn, rfl, hm, ho1, ho2, hbel⟩ := hrel
    have HO1 := Lib.hid ho1
    have HO2 := Lib.hid ho2
    have HW := Lib.hid hbel
    have HM := Lib.hid hm
    have hm8 : m ≤ 8 := by rw [← hm]; exact HLL.out k
    clear ho1 ho2 hbel hm
    by_cases hltk : k < n
    · obtain ⟨b, o, rfl, hb, hc⟩ := HBO.out (by omega)
      have hcc := ((HB2.out.trans (HW.out.mono HB2.out.size)).cell (p := ⟨b, o + k, none⟩) hb).trans (hc k hltk)
      obtain ⟨c0, c1, -⟩ := HC.out _ HW.out
      clear hc hb
      by_cases hx : B k = true
      · rw [hx] at hcc
        by_cases hkp : k < p
        · have hd1 : decide ((k : Int) < (p : Int)) = true := by simp [hkp]
          have hd2 : decide (k < p) = true := by simp [hkp]
          obtain ⟨T, hT⟩ : ∃ T, T = tx (leafOf 2 s.data.toList r.data.toList (k : Int)) := ⟨_, rfl⟩
          have RL1 := Lib.hid (fun u hu => RL2.out k T u hT hu)
          have HS1 := Lib.hid (HLY.out k hx hkp)
          have HS2 := Lib.hid (show X (L (k + 1)) = X (L k) ++ [T] from by rw [HS1.out, HXN.out, hT])
          clear hT hx
          go_wp2_with (at_builtin; refine Ints.append_ints rfl _ _ rfl w2.heap.size m _ (L k) rfl (HO1.out.alloc _) wr.heap.size 1 1 [k] rfl rfl (ints_one _ _ _) (by omega) (Nat.le_trans HW.out.size (by simp)) ?_)
          intro v' w4 hown4 hgrow4
          have HW4 := Lib.hid ((HW.out.alloc HW.out.size (.cells #[.int .i64 (k : Int)] 3)).grown hgrow4 (Nat.le_trans HW.out.size (by simp)) (fun j hj => (HO1.out.lt j hj).1))
          have HO24 := Lib.hid ((HO2.out.alloc (.cells #[.int .i64 (k : Int)] 3)).kept hgrow4 (own_apart HO1.out HO2.out).1)
          rw [← HS1.out] at hown4
          have HO14 := Lib.hid hown4
          clear hown4 hgrow4 HO1 HO2 HW hcc c0 c1 hd1 hd2
          obtain ⟨c0, c1, hk4⟩ := HC.out _ HW4.out
          have HK4 := Lib.hid hk4
          clear hk4
          go_wp2_with fail
          refine (RL1.out _ HK4.out).mono ?_
          rintro e w5 ⟨rfl, hb5⟩
          have HO15 := Lib.hid (Strs.own_below HO14.out hb5)
          have HO25 := Lib.hid (Strs.own_below HO24.out hb5)
          have HW5 := Lib.hid (HW4.out.trans (hb5.mono HW4.out.size))
          clear hb5 HO14 HO24 HW4 HK4 c0 c1
          go_wp2_with (at_builtin; refine Strs.append_strs rfl _ _ rfl w2.heap.size m _ (X (L k)) rfl (HO25.out.alloc _) w5.heap.size 1 1 [T] rfl rfl (Strs.new_one _ _ _) (by omega) (Nat.le_trans HW5.out.size (by simp)) ?_)
          intro v6 w6 hown6 hgrow6
          have HW6 := Lib.hid ((HW5.out.alloc HW5.out.size (.cells #[.string T] 9)).grown hgrow6 (Nat.le_trans HW5.out.size (by simp)) (fun j hj => (HO25.out.lt j hj).1))
          have HO16 := Lib.hid ((HO15.out.alloc (.cells #[.string T] 9)).kept hgrow6 (own_apart HO15.out HO25.out).2)
          rw [← HS2.out] at hown6
          have HO26 := Lib.hid hown6
          clear hown6 hgrow6 HO15 HO25 HW5
          go_wp2
          go_roundw
          case rel => exact ⟨k + 1, m + 1, by omega, by go_num, by rw [HS1.out, List.length_append, HM.out]; rfl, HO16.out, HO26.out, HW6.out⟩
          case measure => simp [intOf]; omega
        · have hd1 : decide ((k : Int) < (p : Int)) = false := by simp; omega
          have hd2 : decide (k < p) = false := by simp; omega
          have hs1 := HLN.out k (fun hx => hkp hx.2)
          have HM' := Lib.hid (show (L (k + 1)).length = m from by rw [hs1]; exact HM.out)
          have ho1 := HO1.out
          have ho2 := HO2.out
          rw [← hs1] at ho1 ho2
          have HO1' := Lib.hid ho1
          have HO2' := Lib.hid ho2
          clear ho1 ho2 hs1 hx
          go_wp2
          go_roundw
          case rel => exact ⟨k + 1, m, by omega, by go_num, HM'.out, HO1'.out, HO2'.out, HW.out⟩
          case measure => simp [intOf]; omega
      · have hxf : B k = false := by simpa using hx
        rw [hxf] at hcc
        have hs1 := HLN.out k (fun hy => hx hy.1)
        have HM' := Lib.hid (show (L (k + 1)).length = m from by rw [hs1]; exact HM.out)
        have ho1 := HO1.out
        have ho2 := HO2.out
        rw [← hs1] at ho1 ho2
        have HO1' := Lib.hid ho1
        have HO2' := Lib.hid ho2
        clear ho1 ho2 hs1 hx hxf
        go_wp2
        go_roundw
        case rel => exact ⟨k + 1, m, by omega, by go_num, HM'.out, HO1'.out, HO2'.out, HW.out⟩
        case measure => simp [intOf]; omega
    · obtain rfl : k = n := by omega
      have ho1 := HO1.out
      have ho2 := HO2.out
      rw [← HLD.out] at ho1 ho2
      obtain ⟨a1, d1, rfl, hm1, hi1⟩ := own_ints ho1
      obtain ⟨a2, d2, rfl, hm2, hi2⟩ := own_texts ho2
      have HI1 := Lib.hid hi1
      have HI2 := Lib.hid hi2
      have HML := Lib.hid hm1.symm
      clear ho1 ho2 hi1 hi2 hm1 hm2 HO1 HO2
      obtain ⟨c0, c1, hk4⟩ := HC.out _ HW.out
      have HK4 := Lib.hid hk4
      clear hk4
      by_cases hm0 : m = 0
      · subst hm0
        go_wp2_with fail
        refine (RP0.out a1 d1 _).mono ?_
        rintro e w5 ⟨rfl, hb5⟩
        have HW5 := Lib.hid (HW.out.trans (hb5.mono HW.out.size))
        clear hb5 c0 c1
        obtain ⟨c0, c1, hk5⟩ := HC.out _ HW5.out
        clear hk5
        go_wp2_with fail
        refine (RM0.out a1 a2 d1 d2 _).mono ?_
        rintro e w6 ⟨rfl, hb6⟩
        have HW6 := Lib.hid (HW5.out.trans (hb6.mono HW5.out.size))
        clear hb6 c0 c1
        go_wp2_with fail
        refine (RA.out _ (HC.out _ HW6.out).2.2).mono ?_
        rintro e w7 ⟨rfl, hb7⟩
        have HW7 := Lib.hid (HB2.out.trans ((HW6.out.trans (hb7.mono HW6.out.size)).mono HB2.out.size))
        clear hb7
        go_wp2
        go_ret
        exact ⟨rfl, HW7.out⟩
      · have hd1 : ((m : Int) == 0) = false := by simp; omega
        go_wp2_with fail
        refine (RP.out m a1 d1 _ HML.out (by omega) HI1.out HK4.out).mono ?_
        rintro e w5 ⟨rfl, hb5⟩
        have HW5 := Lib.hid (HW.out.trans (hb5.mono HW.out.size))
        have HI15 := Lib.hid (HI1.out.below hb5)
        have HI25 := Lib.hid (HI2.out.below hb5)
        clear hb5 c0 c1
        obtain ⟨q, hq⟩ : ∃ q, q = m * H := ⟨_, rfl⟩
        obtain ⟨q2, hq2⟩ : ∃ q2, q2 = q * 2 := ⟨_, rfl⟩
        have hqb : q ≤ 8 * 4 := by rw [hq]; exact Nat.mul_le_mul hm8 (by omega)
        have hw1 : IntKind.i64.wrap ((m : Int) * (H : Int)) = (q : Int) := by rw [← Int.natCast_mul, ← hq]; exact IntWalk.i64_in _ (by omega)
        have hw2 : IntKind.i64.wrap ((q : Int) * 2) = (q2 : Int) := by rw [IntWalk.i64_in _ (by omega)]; omega
        have hle : PR.size ≤ q2 := by
          have h1 := HPL.out
          rw [HML.out, Nat.mul_right_comm, ← hq, ← hq2] at h1
          exact h1
        have hd2 : decide ((PR.size : Int) ≤ (q2 : Int)) = true := by simp; omega
        have hd3 : decide (PR.size ≤ q2) = true := by simp [hle]
        have HC5 := Lib.hid (fun (u : World) (x : Below w5.heap.size w5 u) => HC.out u (HW5.out.trans (x.mono HW5.out.size)))
        have SM := Lib.hid (fun (u : World) (x : Below w5.heap.size w5 u) => RM.out m a1 a2 d1 d2 u HML.out (by omega) (HI15.out.below x) (HI25.out.below x) (HC5.out u x).2.2)
        have SN := Lib.hid (fun (u : World) (x : Below w5.heap.size w5 u) => RN.out u (HC5.out u x).2.2)
        have SA := Lib.hid (fun (u : World) (x : Below w5.heap.size w5 u) => RA.out u (HC5.out u x).2.2)
        clear hq hq2 hqb hle
        go_upto_region 14 with (fail)
        refine Steady.region 27 (by kernel_rfl) (by kernel_rfl) (fun u => Below w5.heap.size w5 u) ((Below.refl _ _).drew) ?_
        simp only [List.take_succ_cons, List.take_zero, List.drop_succ_cons, List.drop_zero]
        refine Steady.take ?_ rfl (by intro u hu; obtain ⟨c0, c1, -⟩ := HC5.out u hu; go_simp; with_reducible rfl) ?_
        simp only [Act.put, List.setIfInBounds_toArray, List.set_cons_zero, List.set_cons_succ]
        refine Steady.take ?_ rfl (by intro u hu; go_simp; with_reducible rfl) ?_
        simp only [Act.put, List.setIfInBounds_toArray, List.set_cons_zero, List.set_cons_succ]
        refine Steady.take ?_ rfl (by intro u hu; go_simp; with_reducible rfl) ?_
        simp only [Act.put, List.setIfInBounds_toArray, List.set_cons_zero, List.set_cons_succ]
        refine Steady.take ?_ rfl (by intro u hu; go_simp; with_reducible rfl) ?_
        simp only [Act.put, List.setIfInBounds_toArray, List.set_cons_zero, List.set_cons_succ]
        refine Steady.call _ _ _ rfl ?_ (keptIf SM.out) ?_
        · intro u
          go_simp
        simp only [Act.put, List.setIfInBounds_toArray, List.set_cons_zero, List.set_cons_succ]
        refine Steady.take ?_ rfl (by intro u hu; obtain ⟨c0, c1, -⟩ := HC5.out u hu; go_simp; with_reducible rfl) ?_
        simp only [Act.put, List.setIfInBounds_toArray, List.set_cons_zero, List.set_cons_succ]
        refine Steady.take ?_ rfl (by intro u hu; go_simp; with_reducible rfl) ?_
        simp only [Act.put, List.setIfInBounds_toArray, List.set_cons_zero, List.set_cons_succ]
        refine Steady.take ?_ rfl (by intro u hu; obtain ⟨c0, c1, -⟩ := HC5.out u hu; go_simp; with_reducible rfl) ?_
        simp only [Act.put, List.setIfInBounds_toArray, List.set_cons_zero, List.set_cons_succ]
        refine Steady.take ?_ rfl (by intro u hu; go_simp; with_reducible rfl) ?_
        simp only [Act.put, List.setIfInBounds_toArray, List.set_cons_zero, List.set_cons_succ]
        refine Steady.call _ _ _ rfl ?_ (keptIf SN.out) ?_
        · intro u
          go_simp
        simp only [Act.put, List.setIfInBounds_toArray, List.set_cons_zero, List.set_cons_succ]
        refine Steady.take ?_ rfl (by intro u hu; go_simp; with_reducible rfl) ?_
        simp only [Act.put, List.setIfInBounds_toArray, List.set_cons_zero, List.set_cons_succ]
        refine Steady.take ?_ rfl (by intro u hu; go_simp; with_reducible rfl) ?_
        simp only [Act.put, List.setIfInBounds_toArray, List.set_cons_zero, List.set_cons_succ]
        refine Steady.take ?_ rfl (by intro u hu; go_simp; with_reducible rfl) ?_
        simp only [Act.put, List.setIfInBounds_toArray, List.set_cons_zero, List.set_cons_succ]
        refine Steady.take ?_ rfl (by intro u hu; go_simp; with_reducible rfl) ?_
        simp only [Act.put, List.setIfInBounds_toArray, List.set_cons_zero, List.set_cons_succ]
        refine Steady.take ?_ rfl (by intro u hu; go_simp; with_reducible rfl) ?_
        simp only [Act.put, List.setIfInBounds_toArray, List.set_cons_zero, List.set_cons_succ]
        refine Steady.take ?_ rfl (by intro u hu; go_simp; with_reducible rfl) ?_
        simp only [Act.put, List.setIfInBounds_toArray, List.set_cons_zero, List.set_cons_succ]
        refine Steady.take ?_ rfl (by intro u hu; go_simp; with_reducible rfl) ?_
        simp only [Act.put, List.setIfInBounds_toArray, List.set_cons_zero, List.set_cons_succ]
        refine Steady.take ?_ rfl (by intro u hu; obtain ⟨c0, c1, -⟩ := HC5.out u hu; go_simp; with_reducible rfl) ?_
        simp only [Act.put, List.setIfInBounds_toArray, List.set_cons_zero, List.set_cons_succ]
        refine Steady.take ?_ rfl (by intro u hu; go_simp; with_reducible rfl) ?_
        simp only [Act.put, List.setIfInBounds_toArray, List.set_cons_zero, List.set_cons_succ]
        refine Steady.take ?_ rfl (by intro u hu; go_simp; with_reducible rfl) ?_
        simp only [Act.put, List.setIfInBounds_toArray, List.set_cons_zero, List.set_cons_succ]
        refine Steady.take ?_ rfl (by intro u hu; obtain ⟨c0, c1, -⟩ := HC5.out u hu; go_simp; with_reducible rfl) ?_
        simp only [Act.put, List.setIfInBounds_toArray, List.set_cons_zero, List.set_cons_succ]
        refine Steady.take ?_ rfl (by intro u hu; go_simp; with_reducible rfl) ?_
        simp only [Act.put, List.setIfInBounds_toArray, List.set_cons_zero, List.set_cons_succ]
        refine Steady.take ?_ rfl (by intro u hu; go_simp; with_reducible rfl) ?_
        simp only [Act.put, List.setIfInBounds_toArray, List.set_cons_zero, List.set_cons_succ]
        refine Steady.take ?_ rfl (by intro u hu; go_simp; with_reducible rfl) ?_
        simp only [Act.put, List.setIfInBounds_toArray, List.set_cons_zero, List.set_cons_succ]
        refine Steady.take ?_ rfl (by intro u hu; go_simp; with_reducible rfl) ?_
        simp only [Act.put, List.setIfInBounds_toArray, List.set_cons_zero, List.set_cons_succ]
        refine Steady.call _ _ _ rfl ?_ (keptIf SA.out) ?_
        · intro u
          go_simp
        simp only [Act.put, List.setIfInBounds_toArray, List.set_cons_zero, List.set_cons_succ]
        refine Steady.take ?_ rfl (by intro u hu; go_simp; with_reducible rfl) ?_
        simp only [Act.put, List.setIfInBounds_toArray, List.set_cons_zero, List.set_cons_succ]
        refine Steady.nil ?_
        intro w7 hb7
        have HW7 := Lib.hid (HB2.out.trans ((HW5.out.trans (hb7.mono HW5.out.size)).mono HB2.out.size))
        clear hb7 hw1 hw2 hd1 hd2 hd3
        go_wp2
        go_ret
        exact ⟨rfl, HW7.out⟩

theorem bools_at {w : World} {a : Addr} {n : Nat} {B : Nat → Bool} (h : ∀ i, i < n → w.cell? (a.add i) = some (.bool (B i))) (hp : 0 < n) :
    ∃ b off, a = ⟨b, off, none⟩ ∧ b < w.heap.size ∧ ∀ j, j < n → w.cell? ⟨b, off + j, none⟩ = some (.bool (B j)) := by
  obtain ⟨b, off, spot⟩ := a
  have hspot : spot = none := by simpa [Addr.add] using World.cell?_spot (h 0 hp)
  subst hspot
  have hc : ∀ j, j < n → w.cell? ⟨b, off + j, none⟩ = some (.bool (B j)) := fun j hj => by rw [← Go.WideShapes.add_plain]; exact h j hj
  refine ⟨b, off, rfl, ?_, hc⟩
  have h0 := hc 0 hp
  rcases Nat.lt_or_ge b w.heap.size with h' | h'
  · exact h'
  · simp [World.cell?, Array.getElem?_eq_none h'] at h0

theorem laidOut : laidOutB Tryd.prog = true := by kernel_rfl

set_option maxRecDepth 100000 in
theorem lifted (os : Os) (started : os.Started) (H : Type) (enc : TypeId × Value → H) :
    ReturnsInHanded {} Tryd.checked os 6 .any (fun w args => (Rows.groveProvesSpec.pre enc Tryd.prog Tryd.f6 [] false w args ∧ laidMetH Tryd.prog laidL w) ∧ sizedMet enc Tryd.prog Tryd.f6 (OpenSpec.ofChange Rows.groveProvesSpec) false w args)
      (Rows.groveProvesSpec.post enc Tryd.prog Tryd.f6 false true false false) := by
  refine returnsInHanded_of_change_and (C := Tryd.checked) (X := fun w _ => laidMetH Tryd.prog laidL w) (fun _ _ _ hh h => h.of_heap hh) own started (by kernel_rfl) Tryd.func6
    (ChangeSpec.witness_shaped (enc := enc) (C := Tryd.checked) (os := os) (X := fun w _ => laidMetH Tryd.prog laidL w) false (World.doorLaid Tryd.prog 400 os) #[.int .i64 0, .slice none 0 0] 8 rfl (World.shaped_of_RefB (by kernel_rfl) (by kernel_rfl)) (by kernel_rfl) (by kernel_rfl) (by kernel_rfl) (door_met os _)) ?_
  intro W base args ds gs before hval0 hW _ hsz0 hL _
  have hval : ∀ (j : Nat) t v, Tryd.f6.params[j]? = some t → args[j]? = some v → Value.okWide Tryd.prog W .any base t v := hval0
  have hsz : (DataW.weightsEach Tryd.prog (Tryd.f6.params.toList ++ Rows.groveProvesSpec.plain.varTypes Tryd.prog) (ds ++ gs)).all (· ≤ reachBytes) = true := hsz0
  clear hsz0
  have hW' := hW
  obtain ⟨p, q, hA0, hV, rfl, hfz, hnd⟩ := hW
  have hA : DataW.TrodAll enc Tryd.prog W 0 (fun _ => true) true Tryd.f6.params.toList args.toList ds p := hA0
  rw [Tryd.params6] at hA hval hsz
  obtain ⟨v0, vs0, d0, ds0, p0, q0, hargs, rfl, rfl, h0, r0⟩ := trodAll_cons hA
  obtain ⟨v1, vs1, d1, ds1, p1, q1, rfl, rfl, rfl, h1, r1⟩ := trodAll_cons r0
  obtain ⟨rfl, rfl, rfl⟩ := trodAll_nil r1
  obtain rfl : args = #[v0, v1] := by cases args; simp_all
  obtain ⟨rfl, rfl⟩ := trodVars_none hV
  have k1 := h1
  have lt1 : ∀ x ∈ p1, x.block < W.heap.size := by obtain ⟨m, hm⟩ := k1; exact DataW.trod_lt m _ _ _ hm
  obtain ⟨n0, rfl, rfl, rfl, w0⟩ := open_int Tryd.underlying3 (hval 0 3 v0 rfl rfl) h0
  obtain ⟨a1, len1, cap1, rfl⟩ := okWide_slice Tryd.underlying40 (hval 1 40 v1 rfl rfl)
  obtain ⟨B1, w1, x1⟩ : ∃ B, BoolsR W a1 len1 B ∧ len1 ≤ 9223372036854775807 := by
    obtain ⟨fuel, hf⟩ := h1
    rcases Go.Deep.open_bools Tryd.underlying40 Tryd.underlying4 (by kernel_rfl) hf with ⟨hcs, _⟩ | ⟨x, l, c, B, hcs, _, hl, hm, _, hcell⟩
    · simp [Value.cells] at hcs
      obtain ⟨rfl, rfl, rfl⟩ := hcs
      exact ⟨fun _ => false, fun h => absurd rfl h, by omega⟩
    · simp [Value.cells] at hcs
      obtain ⟨rfl, rfl, rfl⟩ := hcs
      unfold maxLen at hm
      refine ⟨B, fun h0 => ?_, by omega⟩
      obtain ⟨b, o, rfl, hb, hc⟩ := bools_at (fun i hi => hcell i (by omega) : ∀ i, i < len1 → W.cell? (x.add i) = some (.bool (B i))) (by omega)
      exact ⟨b, o, rfl, hb, hc⟩
  have hcl := of_laid hL
  clear hA0 hval0
  refine (walk n0 a1 len1 cap1 B1 W w1 x1 hcl).mono fun e W' ⟨he, bel⟩ => ?_
  subst he
  exact ⟨_, rfl, _, _, _, [], _, [], hW', trodAll_mk1 (shut_bool Tryd.underlying4 _), (trodAll_cons_mk (shut_int Tryd.underlying3 w0) (trodAll_cons_mk (Below.trod laidOut (by kernel_rfl) (of_decide_eq_true (by kernel_rfl)) k1 bel lt1) trodAll_mk0)), rfl, bel.frame _, fun h => by cases h⟩

theorem over : Rows.GroveProvesSaid :=
  OpenClaim.holds_of_wide 6 Tryd.f6 rfl rfl rfl rfl rfl rfl rfl ⟨rfl, rfl, rfl, rfl, rfl⟩ rfl rfl rfl rfl rfl (by kernel_rfl) Tryd.func6 (by kernel_rfl)
    (of_decide_eq_true (by kernel_rfl)) (by unfold Func.isWrapper; first | (rw [if_pos (by decide +kernel)]; kernel_rfl) | (rw [if_neg (by decide +kernel)]; exact ⟨rfl, rfl⟩))
    (fun os started H enc _ => lifted os started H enc)

theorem proved : Rows.GroveProvesCardSaid :=
  Claim7.holds_tied_plain_at .later [] [.data] true Rows.groveProvesCard.stood.harness false
    over (fun _ h => by cases h) (by kernel_rfl) (fun _ h => by cases h) groveProves_row_tie rfl ⟨rfl, rfl⟩ (by kernel_rfl) rfl
    (fun f fn hf hfn => by
      obtain rfl : f = 6 := Option.some.inj ((show Tryd.prog.funcNamed "murmur/murmurlaw08.GroveProves" = some 6 by kernel_rfl).symm.trans hf) |>.symm
      obtain rfl : fn = Tryd.f6 := (Option.some.inj (Tryd.func6.symm.trans hfn)).symm
      exact ⟨by kernel_rfl, fun j t ht => by
        rw [Tryd.params6] at ht
        have hm : t ∈ [3, 40] := by simpa using Array.mem_of_getElem? ht
        have hall : ([3, 40].all fun u => !Tryd.prog.wantsStandIn u) = true := by kernel_rfl
        exact (show Tryd.prog.wantsStandIn t = false by simpa using List.all_eq_true.1 hall t hm)⟩)
    (by kernel_rfl)
#print axioms proved
end Go.Proofs.YtncafbejgidliaaDoor.LawProves
