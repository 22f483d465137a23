/-
  What the document's side of grove gives: climbing, proofs and many leaves.
-/
import Derived.Test.YtncafbejgidliaaDoorGrvMany
import Derived.Test.YtncafbejgidliaaDoorGrvAwake
import Derived.Test.YtncafbejgidliaaDoorRChnL
import Derived.Test.YtncafbejgidliaaDoorGrvE
namespace Go.Proofs.YtncafbejgidliaaDoor.LawProves
open Go.RowKit Mur Sha Chn Grv
set_option maxRecDepth 100000

/-- The leaves among the first k. -/
def sel (B : Nat → Bool) (P : Nat) : Nat → List Nat
  | 0 => []
  | k + 1 => if B k = true ∧ k < P then sel B P k ++ [k] else sel B P k
theorem sel_lt (B : Nat → Bool) (P k : Nat) : ∀ x ∈ sel B P k, x < k ∧ x < P := by
  induction k with
  | zero => intro x hx; cases hx
  | succ k ih =>
    intro x hx
    unfold sel at hx
    split at hx
    · rcases List.mem_append.1 hx with hx | hx
      · have := ih x hx; omega
      · simp at hx; omega
    · have := ih x hx; omega
theorem sel_up (B : Nat → Bool) (P k : Nat) : Up (sel B P k) := by
  induction k with
  | zero => exact List.Pairwise.nil
  | succ k ih =>
    unfold sel
    split
    · refine List.pairwise_append.2 ⟨ih, by simp, fun x hx y hy => ?_⟩
      have := (sel_lt B P k x hx).1
      simp at hy
      omega
    · exact ih
theorem sel_length (B : Nat → Bool) (P k : Nat) : (sel B P k).length ≤ min k P := by
  induction k with
  | zero => simp [sel]
  | succ k ih =>
    unfold sel
    split
    · rw [List.length_append, List.length_singleton]; omega
    · omega
/-- Their nodes. -/
def texts (s r : List UInt8) (l : List Nat) : List ByteArray := l.map fun i : Nat => tx (leafOf 2 s r (i : Int))
theorem texts_length (s r : List UInt8) (l : List Nat) : (texts s r l).length = l.length := by simp [texts]
theorem texts_next (s r : List UInt8) (l : List Nat) (i : Nat) : texts s r (l ++ [i]) = texts s r l ++ [tx (leafOf 2 s r (i : Int))] := by simp [texts]
theorem texts_size (s r : List UInt8) (l : List Nat) : ∀ x ∈ texts s r l, x.size ≤ 1000000 := fun x hx => by
  obtain ⟨i, _, rfl⟩ := List.mem_map.1 hx
  have := leafOf_length 2 s r (i : Int) (by omega)
  show (leafOf 2 s r (i : Int)).length ≤ _
  omega
theorem texts_hand (s r : List UInt8) (l : List Nat) : handUp l (texts s r l) = handOf 2 s r 0 l := by
  unfold handUp texts handOf
  rw [List.map_map]
  induction l with
  | nil => rfl
  | cons a l ih =>
    rw [List.map_cons, List.zip_cons_cons, List.map_cons, ih]
    rfl
/-- Two rows of unlike types lie apart. -/
theorem own_apart {w : World} {b1 b2 n1 n2 : Nat} {v1 v2 : Value} {x1 x2 : List Value} (h1 : w.ownsRow b1 3 1 v1 n1 x1) (h2 : w.ownsRow b2 9 1 v2 n2 x2) : (v2.ownBlock = none ∨ v2.ownBlock ≠ v1.ownBlock) ∧ (v1.ownBlock = none ∨ v1.ownBlock ≠ v2.ownBlock) := by
  rcases h1.2 with ⟨rfl, -⟩ | ⟨g1, c1, u1, rfl, -, e1, -⟩
  · rcases h2.2 with ⟨rfl, -⟩ | ⟨g2, c2, u2, rfl, -, e2, -⟩
    · exact ⟨.inl rfl, .inl rfl⟩
    · exact ⟨.inr (by simp [Value.ownBlock]), .inl rfl⟩
  · rcases h2.2 with ⟨rfl, -⟩ | ⟨g2, c2, u2, rfl, -, e2, -⟩
    · exact ⟨.inl rfl, .inr (by simp [Value.ownBlock])⟩
    · have hne : g2 ≠ g1 := fun e => by
        rw [e, e1] at e2
        cases e2
      exact ⟨.inr (by simp only [Value.ownBlock, ne_eq, Option.some.injEq]; exact hne), .inr (by simp only [Value.ownBlock, ne_eq, Option.some.injEq]; exact fun e => hne e.symm)⟩
/-- A row of one's own, as it is read. -/
theorem own_ints {w : World} {base n : Nat} {v : Value} {l : List Nat} (h : w.ownsRow base 3 1 v n (Ints.intsV l)) : ∃ a c, v = .slice a n c ∧ n = l.length ∧ IntsR w a (zl l) := by
  obtain ⟨a, c, rfl, -, hl, hc⟩ := Strs.own_slice h
  rw [Ints.intsV_length] at hl
  refine ⟨a, c, rfl, hl, fun h0 => ?_⟩
  rw [zl_length] at h0
  obtain ⟨g, rfl, -, hg, -⟩ := hc 0 (.int .i64 ((l[0]'(by omega) : Nat) : Int)) (Ints.intsV_at (List.getElem?_eq_getElem (by omega)))
  refine ⟨g, 0, rfl, hg, fun i x hx => ?_⟩
  have hi : i < l.length := by have := (List.getElem?_eq_some_iff.1 hx).1; rwa [zl_length] at this
  obtain ⟨g', hg', -, -, hcell⟩ := hc i (.int .i64 ((l[i] : Nat) : Int)) (Ints.intsV_at (List.getElem?_eq_getElem hi))
  cases hg'
  have e : (zl l)[i]? = some ((l[i] : Nat) : Int) := zl_at (List.getElem?_eq_getElem hi)
  rw [e] at hx
  rw [Nat.zero_add, hcell, Option.some.inj hx]
theorem own_texts {w : World} {base n : Nat} {v : Value} {l : List ByteArray} (h : w.ownsRow base 9 1 v n (Strs.strsV l)) : ∃ a c, v = .slice a n c ∧ n = l.length ∧ StrsR w a l := by
  obtain ⟨a, c, rfl, -, hl, hc⟩ := Strs.own_slice h
  rw [Strs.strsV_length] at hl
  refine ⟨a, c, rfl, hl, fun h0 => ?_⟩
  obtain ⟨g, rfl, -, hg, -⟩ := hc 0 (.string (l[0]'(by omega))) (Strs.strsV_at (List.getElem?_eq_getElem (by omega)))
  refine ⟨g, 0, rfl, hg, fun i x hx => ?_⟩
  obtain ⟨g', hg', -, -, hcell⟩ := hc i (.string x) (Strs.strsV_at hx)
  cases hg'
  rw [Nat.zero_add, hcell]
end Go.Proofs.YtncafbejgidliaaDoor.LawProves

namespace Go.Proofs.YtncafbejgidliaaDoor.RefGrv
open Go.RowKit Mur Sha Chn Grv
open RefChn (Kept num_ref)
set_option maxRecDepth 100000

theorem high_small (n wd : Nat) (M : ByteArray) (w : World) (hn : n < 9223372036854775808) (hwd : wd ≤ 64) (hM : M = tx (num (n : Int) wd)) :
    Calls Tryd.prog 43 #[.int .u64 (n : Int), .int .i64 (wd : Int)] w fun e w' => e = .returned (.string M) ∧ Below w.heap.size w w' := by
  have h := num_ref (n : Int) wd M w hwd hM
  rw [show low64 (n : Int) = n by unfold low64; omega] at h
  exact h

theorem parts_five (a0 a1 a2 a3 a4 : ByteArray) (b : Nat) (D : ByteArray) (w : World) (hs : a0.size + a1.size + a2.size + a3.size + a4.size ≤ 900000) (hD : D = tx (sha (parts [a0.data.toList, a1.data.toList, a2.data.toList, a3.data.toList, a4.data.toList]))) (hb : b < w.heap.size)
    (c0 : w.cell? ⟨b, 0, none⟩ = some (.string a0)) (c1 : w.cell? ⟨b, 1, none⟩ = some (.string a1)) (c2 : w.cell? ⟨b, 2, none⟩ = some (.string a2)) (c3 : w.cell? ⟨b, 3, none⟩ = some (.string a3)) (c4 : w.cell? ⟨b, 4, none⟩ = some (.string a4)) :
    Calls Tryd.prog 42 #[.slice (some ⟨b, 0, none⟩) 5 5] w fun e w' => e = .returned (.string D) ∧ Below w.heap.size w w' := by
  rw [hD]
  exact RefSha.parts_ref [a0, a1, a2, a3, a4] b 0 5 w hb (by show 5 ≤ _; omega) (fun i hi => match i, hi with
    | 0, _ => c0
    | 1, _ => c1
    | 2, _ => c2
    | 3, _ => c3
    | 4, _ => c4)
    (by show 0 + (4 + a0.size) + (4 + a1.size) + (4 + a2.size) + (4 + a3.size) + (4 + a4.size) ≤ _; omega)

set_option maxHeartbeats 3200000 in
theorem pair_any (N z a : Nat) (h : Int) (room s V : ByteArray) (w : World) (hN : N ≤ 32) (hz : z ≤ 1000) (ha : a ≤ 1000000) (hs : room.size + s.size ≤ 800000) (hV : V = tx (pairT N room.data.toList z a s.data.toList)) :
    Calls Tryd.prog 24 #[.agg #[.int .i64 (N : Int), .int .i64 h], .string room, .int .i64 (z : Int), .int .i64 (a : Int), .string s] w fun e w' => e = .returned (.string V) ∧ Below w.heap.size w w' := by
  obtain ⟨M0, hM0⟩ : ∃ M, M = tx (num (z : Int) 1) := ⟨_, rfl⟩
  have hs0 : M0.size = 1 := by rw [hM0]; exact num_length _ _
  have R0 := Lib.hid (show ∀ u, Calls Tryd.prog 43 #[.int .u64 (z : Int), .int .i64 1] u fun e w' => e = .returned (.string M0) ∧ Below u.heap.size u w' from fun u => high_small z 1 M0 u (by omega) (by omega) hM0)
  obtain ⟨M1, hM1⟩ : ∃ M, M = tx (num (a : Int) 4) := ⟨_, rfl⟩
  have hs1 : M1.size = 4 := by rw [hM1]; exact num_length _ _
  have R1 := Lib.hid (show ∀ u, Calls Tryd.prog 43 #[.int .u64 (a : Int), .int .i64 4] u fun e w' => e = .returned (.string M1) ∧ Below u.heap.size u w' from fun u => high_small a 4 M1 u (by omega) (by omega) hM1)
  obtain ⟨D, hD⟩ : ∃ D, D = tx (sha (parts [(⟨#[110, 111, 100, 101]⟩ : ByteArray).data.toList, room.data.toList, M0.data.toList, M1.data.toList, s.data.toList])) := ⟨_, rfl⟩
  have hDs : D.size = 32 := by rw [hD]; exact sha_length _
  have hcut : D.extract 0 N = V := cut_take D V N _ hD (by rw [hV, hM0, hM1]; rfl)
  have hN1 : (N : Int) ≤ 32 := by omega
  have hN2 : (N : Int) ≤ D.size := by omega
  have hN3 : (N : Int).toNat = N := by omega
  have RV := Lib.hid (show ∀ (b0 : Nat) (u : World), b0 < u.heap.size → u.cell? ⟨b0, 0, none⟩ = some (.string ⟨#[110, 111, 100, 101]⟩) → u.cell? ⟨b0, 1, none⟩ = some (.string room) → u.cell? ⟨b0, 2, none⟩ = some (.string M0) → u.cell? ⟨b0, 3, none⟩ = some (.string M1) → u.cell? ⟨b0, 4, none⟩ = some (.string s) → Calls Tryd.prog 42 #[.slice (some ⟨b0, 0, none⟩) 5 5] u fun e w' => e = .returned (.string D) ∧ Below u.heap.size u w' from
    fun b0 u h0 d0 d1 d2 d3 d4 => parts_five ⟨#[110, 111, 100, 101]⟩ room M0 M1 s b0 D u (by show 4 + room.size + M0.size + M1.size + s.size ≤ _; omega) hD h0 d0 d1 d2 d3 d4)
  have hw0 : IntKind.u64.wrap (z : Int) = (z : Int) := by rw [IntKind.wrap_u64]; omega
  have hw1 : IntKind.u64.wrap (a : Int) = (a : Int) := by rw [IntKind.wrap_u64]; omega
  clear hV hN hD hDs hM0 hs0 hM1 hs1 hs
  have hK : Kept w 0 (w.alloc (.cells #[.int .i64 (N : Int), .int .i64 h] 23)) := ⟨by simp, ((Below.refl w.heap.size w).alloc (Nat.le_refl _) _)⟩
  have hc0 : (w.alloc (.cells #[.int .i64 (N : Int), .int .i64 h] 23)).cell? ⟨w.heap.size, 0, none⟩ = some (.int .i64 (N : Int)) := by simp
  go_enter Tryd.func24, Tryd.ntmps24
  go_upto_region 1 with (fail)
  generalize (w.alloc (.cells #[.int .i64 (N : Int), .int .i64 h] 23)) = wz at *
  have held_next : ∀ {u u' : World}, (u.cell? ⟨w.heap.size, 0, none⟩ = some (.int .i64 (N : Int)) ∧ Kept w 0 u) → Below u.heap.size u u' → (u'.cell? ⟨w.heap.size, 0, none⟩ = some (.int .i64 (N : Int)) ∧ Kept w 0 u') := by
    rintro u u' ⟨e0, kk⟩ q
    have hr := kk.room
    have hr0 : w.heap.size < u.heap.size := by omega
    exact ⟨(q.cell (p := ⟨w.heap.size, 0, none⟩) (by assumption)).trans e0, kk.next q⟩
  have held_below : ∀ {u : World}, (u.cell? ⟨w.heap.size, 0, none⟩ = some (.int .i64 (N : Int)) ∧ Kept w 0 u) → Below w.heap.size w u := by
    rintro u ⟨-, kk⟩
    exact kk.below
  have HS := Lib.hid (show wz.drew.cell? ⟨w.heap.size, 0, none⟩ = some (.int .i64 (N : Int)) ∧ Kept w 0 wz.drew from ⟨hc0, hK.drew⟩)
  clear hK hc0
  go_region_held3 (fun w' => w'.cell? ⟨w.heap.size, 0, none⟩ = some (.int .i64 (N : Int)) ∧ Kept w 0 w')
    (first | exact HS.out | assumption | exact held_next (by assumption) (by assumption) | exact held_next (by assumption) ((Below.refl _ _).alloc (Nat.le_refl _) _))
    (first
      | (go_at_call 43; with_reducible refine Calls.mono (R0.out _) ?_; rintro e w' ⟨rfl, hb⟩)
      | (go_at_call 43; with_reducible refine Calls.mono (R1.out _) ?_; rintro e w' ⟨rfl, hb⟩)
      | (go_at_call 42; refine Calls.mono (RV.out _ _ (by first | (simp; done) | (simp; omega)) (by first | (simp; done) | (rw [World.cell?_alloc_lt _ _ _ (by simp)]; simp; done)) (by first | (simp; done) | (rw [World.cell?_alloc_lt _ _ _ (by simp)]; simp; done)) (by first | (simp; done) | (rw [World.cell?_alloc_lt _ _ _ (by simp)]; simp; done)) (by first | (simp; done) | (rw [World.cell?_alloc_lt _ _ _ (by simp)]; simp; done)) (by first | (simp; done) | (rw [World.cell?_alloc_lt _ _ _ (by simp)]; simp; done))) ?_; rintro e w' ⟨rfl, hb⟩))
  all_goals
    go_wp2
    go_ret
    exact ⟨rfl, held_below (by assumption)⟩

set_option maxHeartbeats 3200000 in
theorem node_step (N H z a : Nat) (seed room V : ByteArray) (w : World) (hr : Right (N : Int) (H : Int)) (hz : z ≤ H) (ha : a < 2 ^ (H - z)) (hs : seed.size + room.size ≤ 400000) (hV : V = tx (node N seed.data.toList room.data.toList z a))
    (IH : ∀ y, y + 1 = z → ∀ (b : Nat) (U : ByteArray) (u : World), b < 2 ^ (H - y) → U = tx (node N seed.data.toList room.data.toList y b) →
      Calls Tryd.prog 9 #[.agg #[.int .i64 (N : Int), .int .i64 (H : Int)], .string seed, .string room, .agg #[.int .i64 (y : Int), .int .i64 (b : Int)]] u fun e w' => e = .returned (.string U) ∧ Below u.heap.size u w') :
    Calls Tryd.prog 9 #[.agg #[.int .i64 (N : Int), .int .i64 (H : Int)], .string seed, .string room, .agg #[.int .i64 (z : Int), .int .i64 (a : Int)]] w fun e w' => e = .returned (.string V) ∧ Below w.heap.size w w' := by
  have hN : N ≤ 32 := by have := hr.2.1; omega
  have hH : H ≤ 8 := by have := hr.2.2.2; omega
  have R1 := Lib.hid (fun u => RefChn.right_yes N H hr u)
  have RL := Lib.hid (fun (U : ByteArray) (hU : U = tx (leafOf N seed.data.toList room.data.toList (a : Int))) (u : World) => RefChn.leaf_any N H seed room (a : Int) U u hr (by omega) hU)
  have RP := Lib.hid (fun (s U : ByteArray) (hs2 : s.size ≤ 100) (hU : U = tx (pairT N room.data.toList z a s.data.toList)) (u : World) => pair_any N z a H room s U u hN (by omega) (by have := Nat.pow_le_pow_right (show 0 < 2 by omega) (show H - z ≤ 8 by omega); omega) (by omega) hU)
  have hln := fun i j => node_length N seed.data.toList room.data.toList i j hN
  obtain ⟨d, hd⟩ : ∃ d, d = H - z := ⟨_, rfl⟩
  have hd8 : d ≤ 8 := by omega
  obtain ⟨p, hp⟩ : ∃ p, p = 2 ^ d := ⟨_, rfl⟩
  have hp8 : p ≤ 256 := by rw [hp]; exact pow_256 d (by omega)
  have hap : a < p := by rw [hp, hd]; exact ha
  have hpz : (2 : Int) ^ d = (p : Int) := by rw [hp, Int.natCast_pow]; rfl
  have hsub : IntKind.i64.wrap ((H : Int) - (z : Int)) = (d : Int) := by rw [IntKind.wrap_i64]; omega
  have hwd : IntKind.u64.wrap (d : Int) = (d : Int) := by rw [IntKind.wrap_u64]; omega
  have hd1 : decide ((z : Int) < 0) = false := by simp
  have hd2 : decide (H < z) = false := by simp; omega
  have hd3 : decide ((a : Int) < 0) = false := by simp
  have hd4 : decide (p ≤ a) = false := by simp; omega
  have HIH := Lib.hid IH
  have HV := Lib.hid hV
  have HLN := Lib.hid hln
  have HZ := Lib.hid hz
  have HA := Lib.hid ha
  have hz8 : z ≤ 8 := by omega
  clear IH hV hln hr hs hd hp ha hz
  have hB0 := ((Below.refl w.heap.size w).alloc (Nat.le_refl _) (.cells #[.int .i64 (N : Int), .int .i64 (H : Int)] 23)).alloc (by simp) (.cells #[.int .i64 (z : Int), .int .i64 (a : Int)] 24)
  have hc0 : ((w.alloc (.cells #[.int .i64 (N : Int), .int .i64 (H : Int)] 23)).alloc (.cells #[.int .i64 (z : Int), .int .i64 (a : Int)] 24)).cell? ⟨w.heap.size, 0, none⟩ = some (.int .i64 (N : Int)) := by rw [World.cell?_alloc_lt _ _ _ (by simp)]; simp
  have hc1 : ((w.alloc (.cells #[.int .i64 (N : Int), .int .i64 (H : Int)] 23)).alloc (.cells #[.int .i64 (z : Int), .int .i64 (a : Int)] 24)).cell? ⟨w.heap.size, 1, none⟩ = some (.int .i64 (H : Int)) := by rw [World.cell?_alloc_lt _ _ _ (by simp)]; simp
  have hc2 : ((w.alloc (.cells #[.int .i64 (N : Int), .int .i64 (H : Int)] 23)).alloc (.cells #[.int .i64 (z : Int), .int .i64 (a : Int)] 24)).cell? ⟨w.heap.size + 1, 0, none⟩ = some (.int .i64 (z : Int)) := by first | (simp; done) | (rw [World.cell?_alloc_lt _ _ _ (by simp)]; simp)
  have hc3 : ((w.alloc (.cells #[.int .i64 (N : Int), .int .i64 (H : Int)] 23)).alloc (.cells #[.int .i64 (z : Int), .int .i64 (a : Int)] 24)).cell? ⟨w.heap.size + 1, 1, none⟩ = some (.int .i64 (a : Int)) := by first | (simp; done) | (rw [World.cell?_alloc_lt _ _ _ (by simp)]; simp)
  have hlt : w.heap.size + 1 < ((w.alloc (.cells #[.int .i64 (N : Int), .int .i64 (H : Int)] 23)).alloc (.cells #[.int .i64 (z : Int), .int .i64 (a : Int)] 24)).heap.size := by simp
  go_enter Tryd.func9, Tryd.ntmps9
  go_upto_region 1 with (fail)
  generalize ((w.alloc (.cells #[.int .i64 (N : Int), .int .i64 (H : Int)] 23)).alloc (.cells #[.int .i64 (z : Int), .int .i64 (a : Int)] 24)) = wz at *
  have hl0 : w.heap.size < wz.heap.size := by omega
  have HC := Lib.hid (fun (u : World) (q : Below wz.heap.size wz u) => (⟨(q.cell (p := ⟨w.heap.size, 0, none⟩) hl0).trans hc0, (q.cell (p := ⟨w.heap.size, 1, none⟩) hl0).trans hc1⟩ :
    u.cell? ⟨w.heap.size, 0, none⟩ = some (.int .i64 (N : Int)) ∧ u.cell? ⟨w.heap.size, 1, none⟩ = some (.int .i64 (H : Int))))
  have HB0 := Lib.hid hB0
  have HL0 := Lib.hid hl0
  clear hB0 hlt hl0 hc0 hc1
  go_quiet (fail)
  have HY := Lib.hid (belowN (Below.refl wz.heap.size wz) nq)
  generalize wz.drewN nq = wy at *
  clear hc2 hc3
  obtain ⟨c0, c1⟩ := HC.out _ HY.out
  go_wp2_with fail
  refine (R1.out _).mono ?_
  rintro e w1 ⟨rfl, hb1⟩
  have HW1 := Lib.hid (HY.out.trans (hb1.mono HY.out.size))
  clear hb1 c0 c1
  obtain ⟨c0, c1⟩ := HC.out _ HW1.out
  by_cases hz0 : z = 0
  · have he : ((z : Int) == 0) = true := by rw [hz0]; rfl
    have RL1 := Lib.hid (RL.out V (by rw [HV.out, hz0, node]))
    clear hz0
    go_wp2_with fail
    refine (RL1.out _).mono ?_
    rintro e w2 ⟨rfl, hb2⟩
    have HW2 := Lib.hid (HW1.out.trans (hb2.mono HW1.out.size))
    clear hb2
    go_wp2
    go_ret
    exact ⟨rfl, HB0.out.trans (HW2.out.mono (Nat.le_of_lt HL0.out))⟩
  · have he : ((z : Int) == 0) = false := by simp; omega
    obtain ⟨y, hy⟩ : ∃ y, y + 1 = z := ⟨z - 1, by omega⟩
    obtain ⟨b, hb⟩ : ∃ b, b = 2 * a := ⟨_, rfl⟩
    obtain ⟨b', hb'⟩ : ∃ b', b' = b + 1 := ⟨_, rfl⟩
    have hpow : 2 ^ (H - y) = 2 * 2 ^ (H - z) := by rw [show H - y = (H - z) + 1 by have := HZ.out; omega, Nat.pow_succ]; omega
    obtain ⟨X, hX⟩ : ∃ X, X = tx (node N seed.data.toList room.data.toList y b) := ⟨_, rfl⟩
    obtain ⟨Y, hY⟩ : ∃ Y, Y = tx (node N seed.data.toList room.data.toList y b') := ⟨_, rfl⟩
    have hXs : X.size = N := by rw [hX]; exact HLN.out _ _
    have hYs : Y.size = N := by rw [hY]; exact HLN.out _ _
    have I1 := Lib.hid (fun (u : World) => HIH.out y hy b X u (by have := HA.out; omega) hX)
    have I2 := Lib.hid (fun (u : World) => HIH.out y hy b' Y u (by have := HA.out; omega) hY)
    have RP1 := Lib.hid (fun (u : World) => RP.out (X ++ Y) V (by rw [ByteArray.size_append]; omega) (by
      rw [HV.out, ← hy, node, hX, hY, hb', hb, hy]
      simp) u)
    have hw1 : IntKind.i64.wrap ((z : Int) - 1) = (y : Int) := by rw [IntKind.wrap_i64]; omega
    have hw2 : IntKind.i64.wrap (2 * (a : Int)) = (b : Int) := by rw [IntKind.wrap_i64]; omega
    have hw3 : IntKind.i64.wrap ((b : Int) + 1) = (b' : Int) := by rw [IntKind.wrap_i64]; omega
    have hcat : ¬ 9223372036854775807 < X.size + Y.size := by omega
    clear hz0 hy hb hb' hpow hX hY hXs hYs
    go_upto_region 6 with (fail)
    clear c0 c1
    have HC1 := Lib.hid (fun (u : World) (q : Below w1.heap.size w1 u) => HC.out u (HW1.out.trans (q.mono HW1.out.size)))
    refine Steady.region 25 (by kernel_rfl) (by kernel_rfl) (fun u => Below w1.heap.size w1 u) ((Below.refl _ _).drew) ?_
    simp only [List.take_succ_cons, List.take_zero, List.drop_succ_cons, List.drop_zero]
    refine Steady.take ?_ rfl (by intro u hu; obtain ⟨c0, c1⟩ := HC1.out u hu; go_simp; with_reducible rfl) ?_
    simp only [Act.put, List.setIfInBounds_toArray, List.set_cons_zero, List.set_cons_succ]
    refine Steady.take ?_ rfl (by intro u hu; go_simp; with_reducible rfl) ?_
    simp only [Act.put, List.setIfInBounds_toArray, List.set_cons_zero, List.set_cons_succ]
    refine Steady.take ?_ rfl (by intro u hu; go_simp; with_reducible rfl) ?_
    simp only [Act.put, List.setIfInBounds_toArray, List.set_cons_zero, List.set_cons_succ]
    refine Steady.take ?_ rfl (by intro u hu; go_simp; with_reducible rfl) ?_
    simp only [Act.put, List.setIfInBounds_toArray, List.set_cons_zero, List.set_cons_succ]
    refine Steady.take ?_ rfl (by intro u hu; obtain ⟨c0, c1⟩ := HC1.out u hu; go_simp; with_reducible rfl) ?_
    simp only [Act.put, List.setIfInBounds_toArray, List.set_cons_zero, List.set_cons_succ]
    refine Steady.take ?_ rfl (by intro u hu; go_simp; with_reducible rfl) ?_
    simp only [Act.put, List.setIfInBounds_toArray, List.set_cons_zero, List.set_cons_succ]
    refine Steady.take ?_ rfl (by intro u hu; go_simp; with_reducible rfl) ?_
    simp only [Act.put, List.setIfInBounds_toArray, List.set_cons_zero, List.set_cons_succ]
    refine Steady.take ?_ rfl (by intro u hu; go_simp; with_reducible rfl) ?_
    simp only [Act.put, List.setIfInBounds_toArray, List.set_cons_zero, List.set_cons_succ]
    refine Steady.take ?_ rfl (by intro u hu; go_simp; with_reducible rfl) ?_
    simp only [Act.put, List.setIfInBounds_toArray, List.set_cons_zero, List.set_cons_succ]
    refine Steady.take ?_ rfl (by intro u hu; go_simp; with_reducible rfl) ?_
    simp only [Act.put, List.setIfInBounds_toArray, List.set_cons_zero, List.set_cons_succ]
    refine Steady.take ?_ rfl (by intro u hu; go_simp; with_reducible rfl) ?_
    simp only [Act.put, List.setIfInBounds_toArray, List.set_cons_zero, List.set_cons_succ]
    refine Steady.take ?_ rfl (by intro u hu; go_simp; with_reducible rfl) ?_
    simp only [Act.put, List.setIfInBounds_toArray, List.set_cons_zero, List.set_cons_succ]
    refine Steady.call _ _ _ rfl ?_ (Steady.kept I1.out) ?_
    · intro u
      go_simp
    simp only [Act.put, List.setIfInBounds_toArray, List.set_cons_zero, List.set_cons_succ]
    refine Steady.take ?_ rfl (by intro u hu; obtain ⟨c0, c1⟩ := HC1.out u hu; go_simp; with_reducible rfl) ?_
    simp only [Act.put, List.setIfInBounds_toArray, List.set_cons_zero, List.set_cons_succ]
    refine Steady.take ?_ rfl (by intro u hu; go_simp; with_reducible rfl) ?_
    simp only [Act.put, List.setIfInBounds_toArray, List.set_cons_zero, List.set_cons_succ]
    refine Steady.take ?_ rfl (by intro u hu; go_simp; with_reducible rfl) ?_
    simp only [Act.put, List.setIfInBounds_toArray, List.set_cons_zero, List.set_cons_succ]
    refine Steady.take ?_ rfl (by intro u hu; go_simp; with_reducible rfl) ?_
    simp only [Act.put, List.setIfInBounds_toArray, List.set_cons_zero, List.set_cons_succ]
    refine Steady.take ?_ rfl (by intro u hu; go_simp; with_reducible rfl) ?_
    simp only [Act.put, List.setIfInBounds_toArray, List.set_cons_zero, List.set_cons_succ]
    refine Steady.take ?_ rfl (by intro u hu; go_simp; with_reducible rfl) ?_
    simp only [Act.put, List.setIfInBounds_toArray, List.set_cons_zero, List.set_cons_succ]
    refine Steady.take ?_ rfl (by intro u hu; go_simp; with_reducible rfl) ?_
    simp only [Act.put, List.setIfInBounds_toArray, List.set_cons_zero, List.set_cons_succ]
    refine Steady.take ?_ rfl (by intro u hu; go_simp; with_reducible rfl) ?_
    simp only [Act.put, List.setIfInBounds_toArray, List.set_cons_zero, List.set_cons_succ]
    refine Steady.take ?_ rfl (by intro u hu; go_simp; with_reducible rfl) ?_
    simp only [Act.put, List.setIfInBounds_toArray, List.set_cons_zero, List.set_cons_succ]
    refine Steady.call _ _ _ rfl ?_ (Steady.kept I2.out) ?_
    · intro u
      go_simp
    simp only [Act.put, List.setIfInBounds_toArray, List.set_cons_zero, List.set_cons_succ]
    refine Steady.take ?_ rfl (by intro u hu; go_simp; with_reducible rfl) ?_
    simp only [Act.put, List.setIfInBounds_toArray, List.set_cons_zero, List.set_cons_succ]
    refine Steady.call _ _ _ rfl ?_ (Steady.kept RP1.out) ?_
    · intro u
      go_simp
    simp only [Act.put, List.setIfInBounds_toArray, List.set_cons_zero, List.set_cons_succ]
    refine Steady.nil ?_
    intro w5 hb5
    have HW5 := Lib.hid (HW1.out.trans (hb5.mono HW1.out.size))
    clear hb5 hw1 hw2 hw3
    go_wp2
    go_ret
    exact ⟨rfl, HB0.out.trans (HW5.out.mono (Nat.le_of_lt HL0.out))⟩

theorem node_any (N H : Nat) (seed room : ByteArray) (hr : Right (N : Int) (H : Int)) (hs : seed.size + room.size ≤ 400000) (z : Nat) : z ≤ H → ∀ (a : Nat) (V : ByteArray) (w : World), a < 2 ^ (H - z) → V = tx (node N seed.data.toList room.data.toList z a) →
    Calls Tryd.prog 9 #[.agg #[.int .i64 (N : Int), .int .i64 (H : Int)], .string seed, .string room, .agg #[.int .i64 (z : Int), .int .i64 (a : Int)]] w fun e w' => e = .returned (.string V) ∧ Below w.heap.size w w' := by
  induction z with
  | zero => exact fun hz a V w ha hV => node_step N H 0 a seed room V w hr hz ha hs hV (fun y hy => by omega)
  | succ z ih =>
    refine fun hz a V w ha hV => node_step N H (z + 1) a seed room V w hr hz ha hs hV (fun y hy b U u hb hU => ?_)
    obtain rfl : y = z := by omega
    exact ih (by omega) b U u hb hU

set_option maxHeartbeats 3200000 in
theorem node_no (n h hi pl : Int) (seed room : ByteArray) (w : World) (hno : ¬ (Right n h ∧ 0 ≤ hi ∧ hi ≤ h ∧ 0 ≤ pl ∧ pl < 2 ^ (h - hi).toNat)) :
    Calls Tryd.prog 9 #[.agg #[.int .i64 n, .int .i64 h], .string seed, .string room, .agg #[.int .i64 hi, .int .i64 pl]] w fun e w' => e = .returned (.string ⟨#[]⟩) ∧ Below w.heap.size w w' := by
  have hB0 := ((Below.refl w.heap.size w).alloc (Nat.le_refl _) (.cells #[.int .i64 n, .int .i64 h] 23)).alloc (by simp) (.cells #[.int .i64 hi, .int .i64 pl] 24)
  have hc0 : ((w.alloc (.cells #[.int .i64 n, .int .i64 h] 23)).alloc (.cells #[.int .i64 hi, .int .i64 pl] 24)).cell? ⟨w.heap.size, 0, none⟩ = some (.int .i64 n) := by rw [World.cell?_alloc_lt _ _ _ (by simp)]; simp
  have hc1 : ((w.alloc (.cells #[.int .i64 n, .int .i64 h] 23)).alloc (.cells #[.int .i64 hi, .int .i64 pl] 24)).cell? ⟨w.heap.size, 1, none⟩ = some (.int .i64 h) := by rw [World.cell?_alloc_lt _ _ _ (by simp)]; simp
  have hc2 : ((w.alloc (.cells #[.int .i64 n, .int .i64 h] 23)).alloc (.cells #[.int .i64 hi, .int .i64 pl] 24)).cell? ⟨w.heap.size + 1, 0, none⟩ = some (.int .i64 hi) := by first | (simp; done) | (rw [World.cell?_alloc_lt _ _ _ (by simp)]; simp)
  have hc3 : ((w.alloc (.cells #[.int .i64 n, .int .i64 h] 23)).alloc (.cells #[.int .i64 hi, .int .i64 pl] 24)).cell? ⟨w.heap.size + 1, 1, none⟩ = some (.int .i64 pl) := by first | (simp; done) | (rw [World.cell?_alloc_lt _ _ _ (by simp)]; simp)
  have hlt : w.heap.size + 1 < ((w.alloc (.cells #[.int .i64 n, .int .i64 h] 23)).alloc (.cells #[.int .i64 hi, .int .i64 pl] 24)).heap.size := by simp
  go_enter Tryd.func9, Tryd.ntmps9
  go_upto_region 1 with (fail)
  generalize ((w.alloc (.cells #[.int .i64 n, .int .i64 h] 23)).alloc (.cells #[.int .i64 hi, .int .i64 pl] 24)) = wz at *
  have hl0 : w.heap.size < wz.heap.size := by omega
  have HC := Lib.hid (fun (u : World) (q : Below wz.heap.size wz u) => (⟨(q.cell (p := ⟨w.heap.size, 0, none⟩) hl0).trans hc0, (q.cell (p := ⟨w.heap.size, 1, none⟩) hl0).trans hc1⟩ :
    u.cell? ⟨w.heap.size, 0, none⟩ = some (.int .i64 n) ∧ u.cell? ⟨w.heap.size, 1, none⟩ = some (.int .i64 h)))
  have HB0 := Lib.hid hB0
  have HL0 := Lib.hid hl0
  clear hB0 hlt hl0 hc0 hc1
  go_quiet (fail)
  have HY := Lib.hid (belowN (Below.refl wz.heap.size wz) nq)
  generalize wz.drewN nq = wy at *
  clear hc2 hc3
  obtain ⟨c0, c1⟩ := HC.out _ HY.out
  have HNO := Lib.hid hno
  clear hno
  by_cases hr : Right n h
  · have R1 := Lib.hid (fun u => RefChn.right_yes n h hr u)
    have HR := Lib.hid hr
    clear hr
    go_wp2_with fail
    refine (R1.out _).mono ?_
    rintro e w1 ⟨rfl, hb1⟩
    have HW1 := Lib.hid (HY.out.trans (hb1.mono HY.out.size))
    clear hb1 c0 c1
    obtain ⟨c0, c1⟩ := HC.out _ HW1.out
    by_cases h1 : hi < 0
    · have hd1 : decide (hi < 0) = true := by simp [h1]
      go_wp2
      go_ret
      exact ⟨rfl, HB0.out.trans (HW1.out.mono (Nat.le_of_lt HL0.out))⟩
    · have hd1 : decide (hi < 0) = false := by simp; omega
      by_cases h2 : h < hi
      · have hd2 : decide (h < hi) = true := by simp [h2]
        go_wp2
        go_ret
        exact ⟨rfl, HB0.out.trans (HW1.out.mono (Nat.le_of_lt HL0.out))⟩
      · have hd2 : decide (h < hi) = false := by simp; omega
        by_cases h3 : pl < 0
        · have hd3 : decide (pl < 0) = true := by simp [h3]
          go_wp2
          go_ret
          exact ⟨rfl, HB0.out.trans (HW1.out.mono (Nat.le_of_lt HL0.out))⟩
        · have hd3 : decide (pl < 0) = false := by simp; omega
          obtain ⟨d, hd⟩ : ∃ d : Nat, (d : Int) = h - hi := ⟨(h - hi).toNat, by omega⟩
          have hd8 : d ≤ 8 := by have := HR.out.2.2.2; omega
          obtain ⟨p, hp⟩ : ∃ p : Nat, p = 2 ^ d := ⟨_, rfl⟩
          have hp8 : p ≤ 256 := by rw [hp]; exact pow_256 d hd8
          have hpz : (2 : Int) ^ d = (p : Int) := by rw [hp, Int.natCast_pow]; rfl
          have hge : (p : Int) ≤ pl := by
            rcases Int.lt_or_le pl (p : Int) with hx | hx
            · exact absurd ⟨HR.out, by omega, by omega, by omega, by rw [show (h - hi).toNat = d by omega, hpz]; exact hx⟩ HNO.out
            · exact hx
          have hsub : IntKind.i64.wrap (h - hi) = (d : Int) := by rw [hd, IntKind.wrap_i64]; omega
          have hwd : IntKind.u64.wrap (d : Int) = (d : Int) := by rw [IntKind.wrap_u64]; omega
          have hd4 : decide ((p : Int) ≤ pl) = true := by simp [hge]
          clear hp hd h1 h2 h3
          go_wp2
          go_ret
          exact ⟨rfl, HB0.out.trans (HW1.out.mono (Nat.le_of_lt HL0.out))⟩
  · have R1 := Lib.hid (fun u => RefChn.right_no n h hr u)
    clear hr
    go_wp2_with fail
    refine (R1.out _).mono ?_
    rintro e w1 ⟨rfl, hb1⟩
    have HW1 := Lib.hid (HY.out.trans (hb1.mono HY.out.size))
    clear hb1
    go_wp2
    go_ret
    exact ⟨rfl, HB0.out.trans (HW1.out.mono (Nat.le_of_lt HL0.out))⟩
end Go.Proofs.YtncafbejgidliaaDoor.RefGrv

namespace Go.Proofs.YtncafbejgidliaaDoor.RefGrv
open Go.RowKit Mur Sha Chn Grv
set_option maxRecDepth 100000

theorem le_of_not_lt (lf : Int) (k : Nat) (h : ¬ (0 ≤ lf ∧ lf < 2 ^ k)) (h0 : ¬ lf < 0) (p : Nat) (hp : (2 : Int) ^ k = (p : Int)) : (p : Int) ≤ lf := by
  rw [hp] at h
  omega

set_option maxHeartbeats 3200000 in
theorem path_no (n h lf : Int) (seed room : ByteArray) (w : World) (hno : ¬ (Right n h ∧ 0 ≤ lf ∧ lf < 2 ^ h.toNat)) :
    Calls Tryd.prog 11 #[.agg #[.int .i64 n, .int .i64 h], .string seed, .string room, .int .i64 lf] w fun e w' => e = .returned (.string ⟨#[]⟩) ∧ Below w.heap.size w w' := by
  have hB0 := (Below.refl w.heap.size w).alloc (Nat.le_refl _) (.cells #[.int .i64 n, .int .i64 h] 23)
  have hc0 : (w.alloc (.cells #[.int .i64 n, .int .i64 h] 23)).cell? ⟨w.heap.size, 0, none⟩ = some (.int .i64 n) := by simp
  have hc1 : (w.alloc (.cells #[.int .i64 n, .int .i64 h] 23)).cell? ⟨w.heap.size, 1, none⟩ = some (.int .i64 h) := by simp
  have hl0 : w.heap.size < (w.alloc (.cells #[.int .i64 n, .int .i64 h] 23)).heap.size := by simp
  go_enter Tryd.func11, Tryd.ntmps11
  go_upto_region 1 with (fail)
  generalize w.alloc (.cells #[.int .i64 n, .int .i64 h] 23) = wz at *
  have HC := Lib.hid (fun (u : World) (q : Below wz.heap.size wz u) => (⟨(q.cell (p := ⟨w.heap.size, 0, none⟩) hl0).trans hc0, (q.cell (p := ⟨w.heap.size, 1, none⟩) hl0).trans hc1⟩ :
    u.cell? ⟨w.heap.size, 0, none⟩ = some (.int .i64 n) ∧ u.cell? ⟨w.heap.size, 1, none⟩ = some (.int .i64 h)))
  have HB0 := Lib.hid hB0
  have HL0 := Lib.hid hl0
  have HNO := Lib.hid hno
  clear hB0 hl0 hno
  by_cases hr : Right n h
  · have R1 := Lib.hid (fun u => RefChn.right_yes n h hr u)
    have HR := Lib.hid hr
    clear hr
    go_wp2_with fail
    refine (R1.out _).mono ?_
    rintro e w1 ⟨rfl, hb1⟩
    have HW1 := Lib.hid hb1
    clear hb1 hc0 hc1
    obtain ⟨c0, c1⟩ := HC.out _ HW1.out
    by_cases h3 : lf < 0
    · have hd3 : decide (lf < 0) = true := by simp [h3]
      go_wp2
      go_ret
      exact ⟨rfl, HB0.out.trans (HW1.out.mono (Nat.le_of_lt HL0.out))⟩
    · have hd3 : decide (lf < 0) = false := by simp; omega
      obtain ⟨d, rfl⟩ : ∃ d : Nat, h = (d : Int) := ⟨h.toNat, by have := HR.out.2.2.1; omega⟩
      have hd8 : d ≤ 8 := by have := HR.out.2.2.2; omega
      obtain ⟨p, hp⟩ : ∃ p : Nat, p = 2 ^ d := ⟨_, rfl⟩
      have hp8 : p ≤ 256 := by rw [hp]; exact pow_256 d hd8
      have hpz : (2 : Int) ^ d = (p : Int) := by rw [hp, Int.natCast_pow]; rfl
      have hge : (p : Int) ≤ lf := le_of_not_lt lf d (fun hx => HNO.out ⟨HR.out, hx.1, hx.2⟩) h3 p hpz
      have hwd : IntKind.u64.wrap (d : Int) = (d : Int) := by rw [IntKind.wrap_u64]; omega
      have hd4 : decide ((p : Int) ≤ lf) = true := by simp [hge]
      clear hp h3
      go_wp2
      go_ret
      exact ⟨rfl, HB0.out.trans (HW1.out.mono (Nat.le_of_lt HL0.out))⟩
  · have R1 := Lib.hid (fun u => RefChn.right_no n h hr u)
    clear hr
    go_wp2_with fail
    refine (R1.out _).mono ?_
    rintro e w1 ⟨rfl, hb1⟩
    have HW1 := Lib.hid hb1
    clear hb1
    go_wp2
    go_ret
    exact ⟨rfl, HB0.out.trans (HW1.out.mono (Nat.le_of_lt HL0.out))⟩

set_option maxHeartbeats 3200000 in
theorem path_any (N H lf : Nat) (seed room V : ByteArray) (w : World) (hr : Right (N : Int) (H : Int)) (hlf : lf < 2 ^ H) (hs : seed.size + room.size ≤ 400000) (hV : V = tx (path N H seed.data.toList room.data.toList lf)) :
    Calls Tryd.prog 11 #[.agg #[.int .i64 (N : Int), .int .i64 (H : Int)], .string seed, .string room, .int .i64 (lf : Int)] w fun e w' => e = .returned (.string V) ∧ Below w.heap.size w w' := by
  have hN : N ≤ 32 := by have := hr.2.1; omega
  have hH : H ≤ 8 := by have := hr.2.2.2; omega
  have hl8 := pow_256 H hH
  have R1 := Lib.hid (fun u => RefChn.right_yes N H hr u)
  have RN := Lib.hid (fun (i : Nat) (hi : i < H) (P : ByteArray) (hP : P = tx (pathP N seed.data.toList room.data.toList lf i)) (u : World) => node_any N H seed room hr hs i (by omega) (sib (lf / 2 ^ i)) P u (sib_half_lt lf i H hlf hi) hP)
  have hl := pathP_length N seed.data.toList room.data.toList lf hN
  obtain ⟨F, hF⟩ : ∃ F, F = pathP N seed.data.toList room.data.toList lf := ⟨_, rfl⟩
  rw [← hF] at hl RN
  have hul := upto_length F N hl
  obtain ⟨p, hp⟩ : ∃ p : Nat, p = 2 ^ H := ⟨_, rfl⟩
  have hp8 : p ≤ 256 := by rw [hp]; exact hl8
  have hpz : (2 : Int) ^ H = (p : Int) := by rw [hp, Int.natCast_pow]; rfl
  have hd3 : decide ((lf : Int) < 0) = false := by simp
  have hd4 : decide (p ≤ lf) = false := by simp; omega
  have hwd : IntKind.u64.wrap (H : Int) = (H : Int) := by rw [IntKind.wrap_u64]; omega
  have HV := Lib.hid (show V = tx (upto F H) from by rw [hV, path, hF])
  have HUL := Lib.hid hul
  have HFL := Lib.hid hl
  have HLF := Lib.hid hlf
  have HL8 := Lib.hid hl8
  clear hV hF hul hl hs hr hlf hp hl8
  have hB0 := (Below.refl w.heap.size w).alloc (Nat.le_refl _) (.cells #[.int .i64 (N : Int), .int .i64 (H : Int)] 23)
  have hc0 : (w.alloc (.cells #[.int .i64 (N : Int), .int .i64 (H : Int)] 23)).cell? ⟨w.heap.size, 0, none⟩ = some (.int .i64 (N : Int)) := by simp
  have hc1 : (w.alloc (.cells #[.int .i64 (N : Int), .int .i64 (H : Int)] 23)).cell? ⟨w.heap.size, 1, none⟩ = some (.int .i64 (H : Int)) := by simp
  have hlt : w.heap.size < (w.alloc (.cells #[.int .i64 (N : Int), .int .i64 (H : Int)] 23)).heap.size := by simp
  go_enter Tryd.func11, Tryd.ntmps11
  go_upto_region 1 with (fail)
  generalize w.alloc (.cells #[.int .i64 (N : Int), .int .i64 (H : Int)] 23) = wz at *
  have HC := Lib.hid (fun (u : World) (q : Below wz.heap.size wz u) => (⟨(q.cell (p := ⟨w.heap.size, 0, none⟩) hlt).trans hc0, (q.cell (p := ⟨w.heap.size, 1, none⟩) hlt).trans hc1⟩ : u.cell? ⟨w.heap.size, 0, none⟩ = some (.int .i64 (N : Int)) ∧ u.cell? ⟨w.heap.size, 1, none⟩ = some (.int .i64 (H : Int))))
  have HB0 := Lib.hid hB0
  clear hB0 hlt
  go_wp2_with fail
  refine (R1.out _).mono ?_
  rintro e w1 ⟨rfl, hb1⟩
  have HY1 := Lib.hid hb1
  clear hb1 hc0 hc1
  obtain ⟨c0, c1⟩ := HC.out _ HY1.out
  go_wp2_with fail
  clear c0 c1 hd3 hd4 hpz hwd hp8
  go_loopw [9, 10, 28] (fun x _ i wr => ∃ (k : Nat) (t : ByteArray), k ≤ H ∧ i = .int .i64 k ∧ x = .string t ∧ t = tx (upto F k) ∧ Below wz.heap.size wz wr) (fun _ _ i _ => H - (intOf i).toNat)
  case atStart => exact ⟨0, ⟨#[]⟩, by omega, rfl, rfl, rfl, HY1.out⟩
  case round =>
    clear HY1
    obtain ⟨k, t, hk, rfl, rfl, ht, hbel⟩ := hrel
    have HW := Lib.hid hbel
    have HT := Lib.hid ht
    clear hbel ht
    by_cases hlt : k < H
    · obtain ⟨P, hP⟩ : ∃ P, P = tx (F k) := ⟨_, rfl⟩
      have hPs : P.size = N := by rw [hP]; exact HFL.out k
      have hts : t.size = N * k := by rw [HT.out]; exact HUL.out k
      have hmk : N * k ≤ 32 * 8 := Nat.mul_le_mul hN (by omega)
      have hcat : t.size + P.size ≤ 1000 := by omega
      have hnx : t ++ P = tx (upto F (k + 1)) := by rw [HT.out, hP]; exact (RefChn.upto_next F k).symm
      obtain ⟨U, hU⟩ : ∃ U, U = t ++ P := ⟨_, rfl⟩
      rw [← hU] at hnx
      obtain ⟨x, hx⟩ : ∃ x, x = lf / 2 ^ k := ⟨_, rfl⟩
      obtain ⟨y, hy⟩ : ∃ y, y = sib x := ⟨_, rfl⟩
      have hxl : x ≤ 256 := by have := Nat.div_le_self lf (2 ^ k); have := HLF.out; have := HL8.out; omega
      have hsh : (lf : Int) / 2 ^ k = (x : Int) := by rw [hx, Int.natCast_ediv, Int.natCast_pow]; rfl
      have hxo : bits .xor .i64 (x : Int) 1 = (y : Int) := by rw [hy]; exact xor_one x (by omega)
      have hwk : IntKind.u64.wrap (k : Int) = (k : Int) := by rw [IntKind.wrap_u64]; omega
      have RN1 := Lib.hid (show ∀ (u : World), Calls Tryd.prog 9 #[.agg #[.int .i64 (N : Int), .int .i64 (H : Int)], .string seed, .string room, .agg #[.int .i64 (k : Int), .int .i64 (y : Int)]] u fun e w' => e = .returned (.string P) ∧ Below u.heap.size u w' from fun u => by
        rw [hy, hx]
        exact RN.out k hlt P hP u)
      have HNX := Lib.hid hnx
      have HU := Lib.hid hU
      clear hP hPs hnx hx hy hts hmk hU
      obtain ⟨c0, c1⟩ := HC.out _ HW.out
      go_wp2_with fail
      refine (RN1.out _).mono ?_
      rintro e w5 ⟨rfl, hb5⟩
      have HW5 := Lib.hid (HW.out.trans (hb5.mono HW.out.size))
      clear hb5 hsh hxo hwk c0 c1
      go_wp2
      rw [← HU.out]
      go_roundw
      case rel => exact ⟨k + 1, U, by omega, by go_num, rfl, HNX.out, HW5.out⟩
      case measure => simp [intOf]; omega
    · obtain rfl : k = H := by omega
      have hVV : t = V := by rw [HV.out, HT.out]
      subst hVV
      go_wp2
      go_ret
      exact ⟨rfl, HB0.out.trans (HW.out.mono HB0.out.size)⟩

set_option maxHeartbeats 3200000 in
theorem climb_no (n h lf : Int) (room nd pa : ByteArray) (w : World) (hno : ¬ (Right n h ∧ 0 ≤ lf ∧ lf < 2 ^ h.toNat ∧ (pa.size : Int) = n * h)) :
    Calls Tryd.prog 13 #[.agg #[.int .i64 n, .int .i64 h], .string room, .int .i64 lf, .string nd, .string pa] w fun e w' => e = .returned (.string ⟨#[]⟩) ∧ Below w.heap.size w w' := by
  have hB0 := (Below.refl w.heap.size w).alloc (Nat.le_refl _) (.cells #[.int .i64 n, .int .i64 h] 23)
  have hc0 : (w.alloc (.cells #[.int .i64 n, .int .i64 h] 23)).cell? ⟨w.heap.size, 0, none⟩ = some (.int .i64 n) := by simp
  have hc1 : (w.alloc (.cells #[.int .i64 n, .int .i64 h] 23)).cell? ⟨w.heap.size, 1, none⟩ = some (.int .i64 h) := by simp
  have hl0 : w.heap.size < (w.alloc (.cells #[.int .i64 n, .int .i64 h] 23)).heap.size := by simp
  go_enter Tryd.func13, Tryd.ntmps13
  go_upto_region 1 with (fail)
  generalize w.alloc (.cells #[.int .i64 n, .int .i64 h] 23) = wz at *
  have HC := Lib.hid (fun (u : World) (q : Below wz.heap.size wz u) => (⟨(q.cell (p := ⟨w.heap.size, 0, none⟩) hl0).trans hc0, (q.cell (p := ⟨w.heap.size, 1, none⟩) hl0).trans hc1⟩ :
    u.cell? ⟨w.heap.size, 0, none⟩ = some (.int .i64 n) ∧ u.cell? ⟨w.heap.size, 1, none⟩ = some (.int .i64 h)))
  have HB0 := Lib.hid hB0
  have HL0 := Lib.hid hl0
  have HNO := Lib.hid hno
  clear hB0 hl0 hno
  by_cases hr : Right n h
  · have R1 := Lib.hid (fun u => RefChn.right_yes n h hr u)
    have HR := Lib.hid hr
    clear hr
    go_wp2_with fail
    refine (R1.out _).mono ?_
    rintro e w1 ⟨rfl, hb1⟩
    have HW1 := Lib.hid hb1
    clear hb1 hc0 hc1
    obtain ⟨c0, c1⟩ := HC.out _ HW1.out
    by_cases h3 : lf < 0
    · have hd3 : decide (lf < 0) = true := by simp [h3]
      go_wp2
      go_ret
      exact ⟨rfl, HB0.out.trans (HW1.out.mono (Nat.le_of_lt HL0.out))⟩
    · have hd3 : decide (lf < 0) = false := by simp; omega
      obtain ⟨d, rfl⟩ : ∃ d : Nat, h = (d : Int) := ⟨h.toNat, by have := HR.out.2.2.1; omega⟩
      have hd8 : d ≤ 8 := by have := HR.out.2.2.2; omega
      obtain ⟨p, hp⟩ : ∃ p : Nat, p = 2 ^ d := ⟨_, rfl⟩
      have hp8 : p ≤ 256 := by rw [hp]; exact pow_256 d hd8
      have hpz : (2 : Int) ^ d = (p : Int) := by rw [hp, Int.natCast_pow]; rfl
      have hwd : IntKind.u64.wrap (d : Int) = (d : Int) := by rw [IntKind.wrap_u64]; omega
      by_cases hge : (p : Int) ≤ lf
      · have hd4 : decide ((p : Int) ≤ lf) = true := by simp [hge]
        clear hp h3
        go_wp2
        go_ret
        exact ⟨rfl, HB0.out.trans (HW1.out.mono (Nat.le_of_lt HL0.out))⟩
      · have hd4 : decide ((p : Int) ≤ lf) = false := by simp; omega
        have hn0 := HR.out.1
        have hn1 := HR.out.2.1
        obtain ⟨A, hA⟩ : ∃ A, A = n * (d : Int) := ⟨_, rfl⟩
        have hA1 : A ≤ 256 := by
          have h1 : n * (d : Int) ≤ 32 * 8 := Int.mul_le_mul hn1 (by omega) (by omega) (by omega)
          omega
        have hA0 : 0 ≤ A := by rw [hA]; exact Int.mul_nonneg (by omega) (by omega)
        have hwA : IntKind.i64.wrap (n * (d : Int)) = A := by rw [← hA]; exact IntWalk.i64_in _ (by omega)
        have hne : ((pa.size : Int) != A) = true := by
          rw [bne_iff_ne]
          exact fun e => HNO.out ⟨HR.out, by omega, by rw [show ((d : Int).toNat) = d by omega, hpz]; omega, by rw [e, hA]⟩
        clear hp h3 hA
        go_wp2
        go_ret
        exact ⟨rfl, HB0.out.trans (HW1.out.mono (Nat.le_of_lt HL0.out))⟩
  · have R1 := Lib.hid (fun u => RefChn.right_no n h hr u)
    clear hr
    go_wp2_with fail
    refine (R1.out _).mono ?_
    rintro e w1 ⟨rfl, hb1⟩
    have HW1 := Lib.hid hb1
    clear hb1
    go_wp2
    go_ret
    exact ⟨rfl, HB0.out.trans (HW1.out.mono (Nat.le_of_lt HL0.out))⟩

set_option maxHeartbeats 3200000 in
theorem climb_any (N H lf : Nat) (room nd pa V : ByteArray) (w : World) (hr : Right (N : Int) (H : Int)) (hlf : lf < 2 ^ H) (hpa : pa.size = N * H) (hs : room.size + nd.size ≤ 400000) (hV : V = tx (climb N room.data.toList lf nd.data.toList pa.data.toList H)) :
    Calls Tryd.prog 13 #[.agg #[.int .i64 (N : Int), .int .i64 (H : Int)], .string room, .int .i64 (lf : Int), .string nd, .string pa] w fun e w' => e = .returned (.string V) ∧ Below w.heap.size w w' := by
  have hN : N ≤ 32 := by have := hr.2.1; omega
  have hH : H ≤ 8 := by have := hr.2.2.2; omega
  have hl8 := pow_256 H hH
  have R1 := Lib.hid (fun u => RefChn.right_yes N H hr u)
  have RP := Lib.hid (fun (z a : Nat) (s U : ByteArray) (hz : z ≤ 100) (ha : a ≤ 256) (hs2 : s.size ≤ nd.size + 10000) (hU : U = tx (pairT N room.data.toList z a s.data.toList)) (u : World) => pair_any N z a H room s U u hN (by omega) (by omega) (by omega) hU)
  have hcl := fun k => climb_length N room.data.toList lf nd.data.toList pa.data.toList k hN
  have hmul := fun k (hk : k ≤ H) => show N * k ≤ N * H from Nat.mul_le_mul_left _ hk
  have hNH : N * H ≤ 32 * 8 := Nat.mul_le_mul hN hH
  obtain ⟨A, hA⟩ : ∃ A, A = N * H := ⟨_, rfl⟩
  have hwA : IntKind.i64.wrap ((N : Int) * (H : Int)) = (A : Int) := by
    rw [← Int.natCast_mul, ← hA]
    exact IntWalk.i64_in _ (by omega)
  have heq : ((pa.size : Int) != (A : Int)) = false := by simp; omega
  have HWR := Lib.hid (fun (k : Nat) (hk : k < H) => show IntKind.i64.wrap ((k : Int) * (N : Int)) = ((N * k : Nat) : Int) ∧ IntKind.i64.wrap (((k : Int) + 1) * (N : Int)) = ((N * (k + 1) : Nat) : Int) ∧ IntKind.i64.wrap ((k : Int) + 1) = (k : Int) + 1 ∧ ((N * k : Nat) : Int) ≤ ((N * (k + 1) : Nat) : Int) ∧ ((N * (k + 1) : Nat) : Int) ≤ (pa.size : Int) from by
    have h1 := hmul k (by omega)
    have h2 := hmul (k + 1) hk
    have h3 : N * (k + 1) = N * k + N := Nat.mul_succ _ _
    have e1 : (k : Int) * (N : Int) = ((N * k : Nat) : Int) := by rw [Int.mul_comm]; push_cast; rfl
    have e2 : ((k : Int) + 1) * (N : Int) = ((N * (k + 1) : Nat) : Int) := by rw [Int.mul_comm]; push_cast; rfl
    refine ⟨by rw [e1]; exact IntWalk.i64_in _ (by omega), by rw [e2]; exact IntWalk.i64_in _ (by omega), IntWalk.i64_in _ (by omega), by omega, by omega⟩)
  obtain ⟨K, hK⟩ : ∃ K, K = climb N room.data.toList lf nd.data.toList pa.data.toList := ⟨_, rfl⟩
  have HKS := Lib.hid (show ∀ k, K (k + 1) = asOneT N room.data.toList k (lf / 2 ^ k) (K k) ((pa.data.toList.drop (N * k)).take N) from fun k => by rw [hK]; rfl)
  have HK0 := Lib.hid (show nd = tx (K 0) from by rw [hK]; rfl)
  have HV := Lib.hid (show V = tx (K H) from by rw [hV, hK])
  have HCL := Lib.hid (show ∀ k, (K k).length ≤ nd.size + 32 from by rw [hK]; exact hcl)
  obtain ⟨p, hp⟩ : ∃ p : Nat, p = 2 ^ H := ⟨_, rfl⟩
  have hp8 : p ≤ 256 := by rw [hp]; exact hl8
  have hpz : (2 : Int) ^ H = (p : Int) := by rw [hp, Int.natCast_pow]; rfl
  have hd3 : decide ((lf : Int) < 0) = false := by simp
  have hd4 : decide (p ≤ lf) = false := by simp; omega
  have hwd : IntKind.u64.wrap (H : Int) = (H : Int) := by rw [IntKind.wrap_u64]; omega
  have HLF := Lib.hid hlf
  have HL8 := Lib.hid hl8
  have hnd : nd.size ≤ 400000 := by omega
  clear hV hs hr hlf hpa hcl hmul hNH hA hK hl8 hp
  have hB0 := (Below.refl w.heap.size w).alloc (Nat.le_refl _) (.cells #[.int .i64 (N : Int), .int .i64 (H : Int)] 23)
  have hc0 : (w.alloc (.cells #[.int .i64 (N : Int), .int .i64 (H : Int)] 23)).cell? ⟨w.heap.size, 0, none⟩ = some (.int .i64 (N : Int)) := by simp
  have hc1 : (w.alloc (.cells #[.int .i64 (N : Int), .int .i64 (H : Int)] 23)).cell? ⟨w.heap.size, 1, none⟩ = some (.int .i64 (H : Int)) := by simp
  have hlt : w.heap.size < (w.alloc (.cells #[.int .i64 (N : Int), .int .i64 (H : Int)] 23)).heap.size := by simp
  go_enter Tryd.func13, Tryd.ntmps13
  go_upto_region 1 with (fail)
  generalize w.alloc (.cells #[.int .i64 (N : Int), .int .i64 (H : Int)] 23) = wz at *
  have HC := Lib.hid (fun (u : World) (q : Below wz.heap.size wz u) => (⟨(q.cell (p := ⟨w.heap.size, 0, none⟩) hlt).trans hc0, (q.cell (p := ⟨w.heap.size, 1, none⟩) hlt).trans hc1⟩ : u.cell? ⟨w.heap.size, 0, none⟩ = some (.int .i64 (N : Int)) ∧ u.cell? ⟨w.heap.size, 1, none⟩ = some (.int .i64 (H : Int))))
  have HB0 := Lib.hid hB0
  clear hB0 hlt
  go_wp2_with fail
  refine (R1.out _).mono ?_
  rintro e w1 ⟨rfl, hb1⟩
  have HB1 := Lib.hid hb1
  clear hb1 hc0 hc1
  obtain ⟨c0, c1⟩ := HC.out _ HB1.out
  go_wp2_with fail
  clear c0 c1 hwA heq hd3 hd4 hpz hwd hp8
  go_loopw [3, 11, 12, 40] (fun x _ _ i wr => ∃ (k : Nat) (t : ByteArray), k ≤ H ∧ i = .int .i64 k ∧ x = .string t ∧ t = tx (K k) ∧ Below wz.heap.size wz wr) (fun _ _ _ i _ => H - (intOf i).toNat)
  case atStart => exact ⟨0, nd, by omega, rfl, rfl, HK0.out, HB1.out⟩
  case round =>
    clear HB1
    obtain ⟨k, t, hk, rfl, rfl, ht, hbel⟩ := hrel
    have HW := Lib.hid hbel
    have HT := Lib.hid ht
    clear hbel ht
    by_cases hlt : k < H
    · obtain ⟨e1, e2, e3, e4, e5⟩ := HWR.out k hlt
      have hT := piece_cut pa (N * k) N (N * (k + 1)) (Nat.mul_succ _ _)
      obtain ⟨T, hTT⟩ : ∃ T, T = pa.extract (N * k) (N * (k + 1)) := ⟨_, rfl⟩
      rw [← hTT] at hT
      have hcut := hTT.symm
      have hTs : T.size ≤ 1000 := by rw [hT]; show ((pa.data.toList.drop (N * k)).take N).length ≤ 1000; rw [List.length_take]; omega
      have hts : t.size ≤ nd.size + 32 := by rw [HT.out]; exact HCL.out k
      have hcat : t.size + T.size ≤ 500000 := by omega
      have hcat2 : T.size + t.size ≤ 500000 := by omega
      obtain ⟨x, hx⟩ : ∃ x, x = lf / 2 ^ k := ⟨_, rfl⟩
      obtain ⟨x2, hx2⟩ : ∃ x2, x2 = x / 2 := ⟨_, rfl⟩
      have hxl : x ≤ 256 := by have := Nat.div_le_self lf (2 ^ k); have := HLF.out; have := HL8.out; omega
      have hsh : (lf : Int) / 2 ^ k = (x : Int) := by rw [hx, Int.natCast_ediv, Int.natCast_pow]; rfl
      have hsh2 : (lf : Int) / 2 ^ (k + 1) = (x2 : Int) := by rw [hx2, hx, Nat.div_div_eq_div_mul, ← Nat.pow_succ, Int.natCast_ediv, Int.natCast_pow]; rfl
      have hand : bits .and .i64 (x : Int) 1 = ((x % 2 : Nat) : Int) := and_one x (by omega)
      have hwk : IntKind.u64.wrap (k : Int) = (k : Int) := by rw [IntKind.wrap_u64]; omega
      have hwk1 : IntKind.u64.wrap ((k : Int) + 1) = (k : Int) + 1 := by rw [IntKind.wrap_u64]; omega
      obtain ⟨V2, hV2⟩ : ∃ V2, V2 = tx (K (k + 1)) := ⟨_, rfl⟩
      obtain ⟨S, hS⟩ : ∃ S, S = if x % 2 = 1 then T ++ t else t ++ T := ⟨_, rfl⟩
      have hSl : S.data.toList = if x % 2 = 1 then T.data.toList ++ t.data.toList else t.data.toList ++ T.data.toList := by rw [hS]; split <;> simp
      have RP1 := Lib.hid (show ∀ (u : World), Calls Tryd.prog 24 #[.agg #[.int .i64 (N : Int), .int .i64 (H : Int)], .string room, .int .i64 ((k : Int) + 1), .int .i64 (x2 : Int), .string S] u fun e w' => e = .returned (.string V2) ∧ Below u.heap.size u w' from fun u =>
        RP.out (k + 1) x2 S V2 (by omega) (by omega) (by rw [hS]; split <;> rw [ByteArray.size_append] <;> omega) (by
          rw [hV2, HKS.out, asOneT, hSl, ← hx, hx2, HT.out, hT]) u)
      have HV2 := Lib.hid hV2
      have HX := Lib.hid hts
      clear hT hTT hx hV2 hx2 hSl hTs hts
      obtain ⟨a, ha⟩ : ∃ a, a = N * k := ⟨_, rfl⟩
      obtain ⟨b, hb⟩ : ∃ b, b = N * (k + 1) := ⟨_, rfl⟩
      rw [← ha] at e1 e4 hcut
      rw [← hb] at e2 e4 e5 hcut
      have e6 : (0 : Int) ≤ (a : Int) := by omega
      have e7 : (0 : Int) ≤ (b : Int) := by omega
      have e8 : (a : Int).toNat = a := by omega
      have e9 : (b : Int).toNat = b := by omega
      clear ha hb
      obtain ⟨c0, c1⟩ := HC.out _ HW.out
      by_cases ho : x % 2 = 1
      · rw [if_pos ho] at hS
        have he : (((x % 2 : Nat) : Int) == 0) = false := by rw [ho]; rfl
        go_upto_region 10 with (fail)
        rw [← hS]
        clear hS he hand hcut e1 e2 e4 e5 e6 e7 e8 e9 hsh ho
        go_wp2_with fail
        refine (RP1.out _).mono ?_
        rintro e w5 ⟨rfl, hb5⟩
        have HW5 := Lib.hid (HW.out.trans (hb5.mono HW.out.size))
        clear hb5 hsh2 e3 hwk hwk1 c0 c1
        go_wp2
        go_roundw
        case rel => exact ⟨k + 1, V2, by omega, by go_num, rfl, HV2.out, HW5.out⟩
        case measure => simp [intOf]; omega
      · rw [if_neg ho] at hS
        have he : (((x % 2 : Nat) : Int) == 0) = true := by rw [show x % 2 = 0 by omega]; rfl
        go_upto_region 10 with (fail)
        rw [← hS]
        clear hS he hand hcut e1 e2 e4 e5 e6 e7 e8 e9 hsh ho
        go_wp2_with fail
        refine (RP1.out _).mono ?_
        rintro e w5 ⟨rfl, hb5⟩
        have HW5 := Lib.hid (HW.out.trans (hb5.mono HW.out.size))
        clear hb5 hsh2 e3 hwk hwk1 c0 c1
        go_wp2
        go_roundw
        case rel => exact ⟨k + 1, V2, by omega, by go_num, rfl, HV2.out, HW5.out⟩
        case measure => simp [intOf]; omega
    · obtain rfl : k = H := by omega
      have hVV : t = V := by rw [HV.out, HT.out]
      subst hVV
      go_wp2
      go_ret
      exact ⟨rfl, HB0.out.trans (HW.out.mono HB0.out.size)⟩
end Go.Proofs.YtncafbejgidliaaDoor.RefGrv

namespace Go.Proofs.YtncafbejgidliaaDoor.RefGrv
open Go.RowKit Mur Sha Chn Grv
set_option maxRecDepth 100000

/-- Where a number stands among some: below 0 if nowhere. -/
def atI : List Int → Int → Int → Int
  | [], _, _ => -1
  | x :: l, k, n => if x = n then k else atI l (k + 1) n
theorem atI_lt (l : List Int) (n : Int) : ∀ k : Int, 0 ≤ k → (decide (atI l k n < 0) = !decide (n ∈ l)) := by
  induction l with
  | nil => intro k hk; simp [atI]
  | cons x l ih =>
    intro k hk
    unfold atI
    by_cases h : x = n
    · rw [if_pos h]
      have : ¬ k < 0 := by omega
      simp [h, this]
    · rw [if_neg h, ih (k + 1) (by omega)]
      have : ¬ n = x := fun e => h e.symm
      simp [this]

set_option maxHeartbeats 1600000 in
theorem at_any (zs : List Int) (m : Nat) (a : Option Addr) (cap : Nat) (x : Int) (w : World) (hr : IntsR w a zs) (hm : zs.length = m) (hm2 : m ≤ 1000000) :
    Calls Tryd.prog 33 #[.slice a m cap, .int .i64 x] w fun e w' => e = .returned (.int .i64 (atI zs 0 x)) ∧ Below w.heap.size w w' := by
  have HR := Lib.hid hr
  have HN := Lib.hid hm
  clear hr hm
  go_enter Tryd.func33, Tryd.ntmps33
  go_wp2_with fail
  go_loopw [5, 6, 9] (fun _ _ i wr => ∃ j : Nat, j ≤ m ∧ i = .int .i64 j ∧ atI zs 0 x = atI (zs.drop j) (j : Int) x ∧ Below w.heap.size w wr) (fun _ _ i _ => m - (intOf i).toNat)
  case atStart => exact ⟨0, by omega, rfl, rfl, Below.refl _ _⟩
  case round =>
    obtain ⟨j, hj, rfl, hat, hbel⟩ := hrel
    have HW := Lib.hid hbel
    have HAT := Lib.hid hat
    clear hbel hat
    by_cases hlt : j < m
    · obtain ⟨b, o, rfl, hb, hc⟩ := HR.out (by have := HN.out; omega)
      have hjz : j < zs.length := by rw [HN.out]; exact hlt
      obtain ⟨y, hy⟩ : ∃ y, y = zs[j] := ⟨_, rfl⟩
      have hcc := (HW.out.cell (p := ⟨b, o + j, none⟩) hb).trans (hc j y (by rw [hy]; exact List.getElem?_eq_getElem hjz))
      have hat := HAT.out
      rw [List.drop_eq_getElem_cons hjz, ← hy, atI] at hat
      have HAT2 := Lib.hid hat
      clear hat hy hc hjz
      by_cases h1 : y = x
      · have hd1 : (y == x) = true := by simp [h1]
        have hv : atI zs 0 x = (j : Int) := by rw [HAT2.out, if_pos h1]
        have HV := Lib.hid hv
        clear h1 hv
        go_wp2
        go_ret
        exact ⟨by rw [HV.out]; rfl, HW.out⟩
      · have hd1 : (y == x) = false := by simp [h1]
        have hv : atI zs 0 x = atI (zs.drop (j + 1)) ((j + 1 : Nat) : Int) x := by rw [HAT2.out, if_neg h1]; rfl
        have HV := Lib.hid hv
        clear h1 hv
        go_wp2
        go_roundw
        case rel => exact ⟨j + 1, by omega, by go_num, HV.out, HW.out⟩
        case measure => simp [intOf]; omega
    · obtain rfl : j = m := by omega
      have hv : atI zs 0 x = -1 := by rw [HAT.out, List.drop_eq_nil_of_le (by rw [HN.out]; exact Nat.le_refl _), atI]
      have HV := Lib.hid hv
      clear hv
      go_wp2
      go_ret
      exact ⟨by rw [HV.out]; rfl, HW.out⟩

set_option maxHeartbeats 3200000 in
theorem rising_any (zs : List Int) (m : Nat) (a : Option Addr) (cap : Nat) (n h : Int) (V : Bool) (w : World) (h0 : 0 ≤ h) (h8 : h ≤ 8) (hr : IntsR w a zs) (hm : zs.length = m) (hm2 : m ≤ 1000000) (hV : V = okL (2 ^ h.toNat) zs) :
    Calls Tryd.prog 32 #[.agg #[.int .i64 n, .int .i64 h], .slice a m cap] w fun e w' => e = .returned (.bool V) ∧ Below w.heap.size w w' := by
  obtain ⟨d, rfl⟩ : ∃ d : Nat, h = (d : Int) := ⟨h.toNat, by omega⟩
  have hd8 : d ≤ 8 := by omega
  obtain ⟨p, hp⟩ : ∃ p : Nat, p = 2 ^ d := ⟨_, rfl⟩
  have hp8 : p ≤ 256 := by rw [hp]; exact pow_256 d hd8
  have hpz : (2 : Int) ^ d = (p : Int) := by rw [hp, Int.natCast_pow]; rfl
  have hwd : IntKind.u64.wrap (d : Int) = (d : Int) := by rw [IntKind.wrap_u64]; omega
  rw [show ((d : Int).toNat) = d by omega, hpz] at hV
  have HR := Lib.hid hr
  have HN := Lib.hid hm
  have HV := Lib.hid hV
  clear hm hV hp h0 h8
  have hB0 := (Below.refl w.heap.size w).alloc (Nat.le_refl _) (.cells #[.int .i64 n, .int .i64 (d : Int)] 23)
  have hc0 : (w.alloc (.cells #[.int .i64 n, .int .i64 (d : Int)] 23)).cell? ⟨w.heap.size, 0, none⟩ = some (.int .i64 n) := by simp
  have hc1 : (w.alloc (.cells #[.int .i64 n, .int .i64 (d : Int)] 23)).cell? ⟨w.heap.size, 1, none⟩ = some (.int .i64 (d : Int)) := by simp
  have hl0 : w.heap.size < (w.alloc (.cells #[.int .i64 n, .int .i64 (d : Int)] 23)).heap.size := by simp
  clear hr
  go_enter Tryd.func32, Tryd.ntmps32
  go_upto_region 1 with (fail)
  generalize w.alloc (.cells #[.int .i64 n, .int .i64 (d : Int)] 23) = wz at *
  have HC := Lib.hid (fun (u : World) (q : Below wz.heap.size wz u) => (⟨(q.cell (p := ⟨w.heap.size, 0, none⟩) hl0).trans hc0, (q.cell (p := ⟨w.heap.size, 1, none⟩) hl0).trans hc1⟩ :
    u.cell? ⟨w.heap.size, 0, none⟩ = some (.int .i64 n) ∧ u.cell? ⟨w.heap.size, 1, none⟩ = some (.int .i64 (d : Int))))
  have HB0 := Lib.hid hB0
  have HL0 := Lib.hid hl0
  clear hB0 hl0 hc0 hc1
  go_wp2_with fail
  go_loopw [5, 6, 9] (fun _ _ i wr => ∃ (j : Nat) (l : Int), j ≤ m ∧ i = .int .i64 j ∧ 0 ≤ l ∧ (j = 0 → l = 0) ∧ (∀ x, 0 < j → zs[j - 1]? = some x → l = x + 1) ∧ okI (p : Int) 0 zs = okI (p : Int) l (zs.drop j) ∧ Below wz.heap.size wz wr) (fun _ _ i _ => m - (intOf i).toNat)
  case atStart => exact ⟨0, 0, by omega, rfl, by omega, fun _ => rfl, fun x hx => by omega, rfl, Below.refl _ _⟩
  case round =>
    obtain ⟨j, l, hj, rfl, hl0, hl1, hl2, hok, hbel⟩ := hrel
    have HW := Lib.hid hbel
    have HOK := Lib.hid hok
    have HL1 := Lib.hid hl1
    have HL2 := Lib.hid hl2
    clear hbel hok hl1 hl2
    obtain ⟨c0, c1⟩ := HC.out _ HW.out
    by_cases hlt : j < m
    · obtain ⟨b, o, rfl, hb, hc⟩ := HR.out (by have := HN.out; omega)
      have hjz : j < zs.length := by rw [HN.out]; exact hlt
      obtain ⟨x, hx⟩ : ∃ x, x = zs[j] := ⟨_, rfl⟩
      have hbw := HB0.out.trans (HW.out.mono HB0.out.size)
      have hcc := (hbw.cell (p := ⟨b, o + j, none⟩) hb).trans (hc j x (by rw [hx]; exact List.getElem?_eq_getElem hjz))
      have hdrop : zs.drop j = x :: zs.drop (j + 1) := by rw [List.drop_eq_getElem_cons hjz, hx]
      have hok := HOK.out
      rw [hdrop, okI] at hok
      have HOK2 := Lib.hid hok
      have HXJ := Lib.hid (show zs[j]? = some x from by rw [hx]; exact List.getElem?_eq_getElem hjz)
      clear hok hdrop hx
      have hbad : ¬ (l ≤ x ∧ x < (p : Int)) → V = false := fun hno => by
        rw [HV.out, okL, HOK2.out]
        by_cases h1 : l ≤ x
        · rw [decide_eq_false (show ¬ x < (p : Int) from fun h2 => hno ⟨h1, h2⟩), Bool.and_false, Bool.false_and, Bool.false_and]
        · rw [decide_eq_false h1]; rfl
      have HBAD := Lib.hid hbad
      clear hbad hjz
      by_cases h1 : x < 0
      · have hd1 : decide (x < 0) = true := by simp [h1]
        have hV : V = false := HBAD.out (by omega)
        subst hV
        clear hc
        go_wp2
        go_ret
        exact ⟨rfl, HB0.out.trans (HW.out.mono HB0.out.size)⟩
      · have hd1 : decide (x < 0) = false := by simp; omega
        by_cases h2 : (p : Int) ≤ x
        · have hd2 : decide ((p : Int) ≤ x) = true := by simp [h2]
          have hV : V = false := HBAD.out (by omega)
          subst hV
          clear hc
          go_wp2
          go_ret
          exact ⟨rfl, HB0.out.trans (HW.out.mono HB0.out.size)⟩
        · have hd2 : decide ((p : Int) ≤ x) = false := by simp; omega
          by_cases hj0 : j = 0
          · have hd3 : decide ((0 : Int) < (j : Int)) = false := by simp; omega
            have hd4 : decide (0 < j) = false := by simp; omega
            have hle : l ≤ x := by rw [HL1.out hj0]; omega
            have hok : okI (p : Int) 0 zs = okI (p : Int) (x + 1) (zs.drop (j + 1)) := by
              rw [HOK2.out, decide_eq_true hle, decide_eq_true (show x < (p : Int) by omega)]
              rfl
            have HOK3 := Lib.hid hok
            clear hok hc hj0
            go_wp2
            go_roundw
            case rel => exact ⟨j + 1, x + 1, by omega, by go_num, by omega, fun h => by omega, fun y _ hy => by
              rw [Nat.add_sub_cancel, HXJ.out] at hy
              rw [Option.some.inj hy], HOK3.out, HW.out⟩
            case measure => simp [intOf]; omega
          · have hd3 : decide ((0 : Int) < (j : Int)) = true := by simp; omega
            have hd4 : decide (0 < j) = true := by simp; omega
            have hjp : j - 1 < zs.length := by have := HN.out; omega
            obtain ⟨y, hy⟩ : ∃ y, zs[j - 1]? = some y := ⟨_, List.getElem?_eq_getElem hjp⟩
            have hly : l = y + 1 := HL2.out y (by omega) hy
            obtain ⟨j1, hj1⟩ : ∃ j1, j1 = j - 1 := ⟨_, rfl⟩
            rw [← hj1] at hy
            have hcy := (hbw.cell (p := ⟨b, o + j1, none⟩) hb).trans (hc j1 y hy)
            have hw1 : IntKind.i64.wrap ((j : Int) - 1) = (j1 : Int) := by rw [IntKind.wrap_i64]; omega
            have hw2 : (j : Int) - 1 = (j1 : Int) := by omega
            have hlj : (j1 : Int) < (m : Int) := by omega
            have hgj : (0 : Int) ≤ (j1 : Int) := by omega
            have htj : (j1 : Int).toNat = j1 := by omega
            clear hj1 hy hjp hc
            by_cases h5 : x ≤ y
            · have hd5 : decide (x ≤ y) = true := by simp [h5]
              have hV : V = false := HBAD.out (by omega)
              subst hV
              clear hly
              go_wp2
              go_ret
              exact ⟨rfl, HB0.out.trans (HW.out.mono HB0.out.size)⟩
            · have hd5 : decide (x ≤ y) = false := by simp; omega
              have hok : okI (p : Int) 0 zs = okI (p : Int) (x + 1) (zs.drop (j + 1)) := by
                rw [HOK2.out, decide_eq_true (show l ≤ x by omega), decide_eq_true (show x < (p : Int) by omega)]
                rfl
              have HOK3 := Lib.hid hok
              clear hok hly
              go_wp2
              go_roundw
              case rel => exact ⟨j + 1, x + 1, by omega, by go_num, by omega, fun h => by omega, fun y _ hy => by
                rw [Nat.add_sub_cancel, HXJ.out] at hy
                rw [Option.some.inj hy], HOK3.out, HW.out⟩
              case measure => simp [intOf]; omega
    · obtain rfl : j = m := by omega
      have hV : V = decide (0 < j) := by
        rw [HV.out, okL, HOK.out, List.drop_eq_nil_of_le (by rw [HN.out]; exact Nat.le_refl _), HN.out]
        rfl
      subst hV
      go_wp2
      go_ret
      exact ⟨by simp, HB0.out.trans (HW.out.mono HB0.out.size)⟩
end Go.Proofs.YtncafbejgidliaaDoor.RefGrv

namespace Go.Proofs.YtncafbejgidliaaDoor.RefGrv
open Go.RowKit Mur Sha Chn Grv
open LawProves (own_ints)
set_option maxRecDepth 100000

theorem append_ints_at {ops : Array Oper} {rest : List Oper} {o : Oper} {a : Act} {W : World} {Q : Exit → Act → World → Prop} (hgd : o.guard = none) (s x : Operand)
    (ho : o.op = .call { callee := .builtin .append, args := #[s, x], argTypes := #[35, 35] }) (base n : Nat) (v : Value) (l : List Nat) (hs : a.eval s = v) (hown : W.ownsRow base 3 1 v n (Ints.intsV l))
    (b off m c : Nat) (news : List Nat) (hx : a.eval x = .slice (some ⟨b, off, none⟩) m c) (hm : news.length = m) (hnews : ∀ j u, news[j]? = some u → W.cell? ⟨b, off + j, none⟩ = some (.int .i64 ((u : Nat) : Int))) (hn : n + m ≤ 8796093022208) (hbase : base ≤ W.heap.size)
    (h : ∀ v' w', w'.ownsRow base 3 1 v' (n + m) (Ints.intsV (l ++ news)) → W.grownBy w' v.ownBlock → wpList Tryd.prog ops Q rest (a.put o.dst v') w') : wpList Tryd.prog ops Q (o :: rest) a W := by
  obtain ⟨i0, hi, hz0, hz1, hz2⟩ := info_parts Ints.info_int
  refine wpList_append_own W hgd s x 35 ho base 3 i0 (.int .i64 0) 1 8 Tryd.underlying35 hi hz0 hz1 hz2 rfl (by decide) v n (Ints.intsV l) hs hown ⟨b, off, none⟩ m c (Ints.intsV news) hx (by rw [Ints.intsV_length]; omega) (fun j u hu => by
    have hj : j < news.length := by have := (List.getElem?_eq_some_iff.1 hu).1; rwa [Ints.intsV_length] at this
    have e := Ints.intsV_at (List.getElem?_eq_getElem hj)
    rw [e] at hu
    have e2 : (⟨b, off, none⟩ : Addr).add j = ⟨b, off + j, none⟩ := Go.WideShapes.add_plain b off j
    rw [e2, ← Option.some.inj hu]
    exact hnews j _ (List.getElem?_eq_getElem hj)) (Ints.intsV_one news) (by unfold maxLen; omega) (by omega) hbase ?_
  intro v' w' h1 h2 _
  rw [← Ints.intsV_append] at h1
  exact h v' w' h1 h2
theorem mem_zl (l : List Nat) (x : Nat) : ((x : Int) ∈ zl l) ↔ x ∈ l := by
  unfold zl
  rw [List.mem_map]
  constructor
  · rintro ⟨y, hy, e⟩
    have : y = x := by omega
    rw [← this]; exact hy
  · exact fun h => ⟨x, h, rfl⟩
/-- Is it among them? -/
theorem at_mem (l : List Nat) (n : Nat) (a : Option Addr) (cap x : Nat) (b : Bool) (w : World) (hr : IntsR w a (zl l)) (hl : l.length = n) (hn : n ≤ 1000000) (hb : decide (x ∈ l) = !b) :
    Calls Tryd.prog 33 #[.slice a n cap, .int .i64 (x : Int)] w fun e w' => ∃ r : Int, e = .returned (.int .i64 r) ∧ decide (r < 0) = b ∧ Below w.heap.size w w' := by
  refine (at_any (zl l) n a cap (x : Int) w hr (by rw [zl_length, hl]) hn).mono ?_
  rintro e w' ⟨rfl, hw⟩
  refine ⟨_, rfl, ?_, hw⟩
  have h1 := atI_lt (zl l) (x : Int) 0 (by omega)
  have h2 : decide ((x : Int) ∈ zl l) = decide (x ∈ l) := by rw [Bool.eq_iff_iff, decide_eq_true_iff, decide_eq_true_iff]; exact mem_zl l x
  rw [h1, h2, hb, Bool.not_not]

set_option maxHeartbeats 3200000 in
theorem proof_no (n h : Int) (seed room : ByteArray) (zs : List Int) (m : Nat) (a : Option Addr) (cap : Nat) (w : World) (hr : IntsR w a zs) (hm : zs.length = m) (hm2 : m ≤ 1000000) (hno : ¬ (Right n h ∧ okL (2 ^ h.toNat) zs = true)) :
    Calls Tryd.prog 15 #[.agg #[.int .i64 n, .int .i64 h], .string seed, .string room, .slice a m cap] w fun e w' => e = .returned (.string ⟨#[]⟩) ∧ Below w.heap.size w w' := by
  have hB0 := (Below.refl w.heap.size w).alloc (Nat.le_refl _) (.cells #[.int .i64 n, .int .i64 h] 23)
  have hc0 : (w.alloc (.cells #[.int .i64 n, .int .i64 h] 23)).cell? ⟨w.heap.size, 0, none⟩ = some (.int .i64 n) := by simp
  have hc1 : (w.alloc (.cells #[.int .i64 n, .int .i64 h] 23)).cell? ⟨w.heap.size, 1, none⟩ = some (.int .i64 h) := by simp
  have hl0 : w.heap.size < (w.alloc (.cells #[.int .i64 n, .int .i64 h] 23)).heap.size := by simp
  go_enter Tryd.func15, Tryd.ntmps15
  go_upto_region 1 with (fail)
  generalize w.alloc (.cells #[.int .i64 n, .int .i64 h] 23) = wz at *
  have HC := Lib.hid (fun (u : World) (q : Below wz.heap.size wz u) => (⟨(q.cell (p := ⟨w.heap.size, 0, none⟩) hl0).trans hc0, (q.cell (p := ⟨w.heap.size, 1, none⟩) hl0).trans hc1⟩ :
    u.cell? ⟨w.heap.size, 0, none⟩ = some (.int .i64 n) ∧ u.cell? ⟨w.heap.size, 1, none⟩ = some (.int .i64 h)))
  have HB0 := Lib.hid hB0
  have HL0 := Lib.hid hl0
  by_cases hri : Right n h
  · have R1 := Lib.hid (fun u => RefChn.right_yes n h hri u)
    have R2 := Lib.hid (fun (u : World) (q : Below wz.heap.size wz u) => show Calls Tryd.prog 32 #[.agg #[.int .i64 n, .int .i64 h], .slice a m cap] u fun e w' => e = .returned (.bool false) ∧ Below u.heap.size u w' from
      rising_any zs m a cap n h false u hri.2.2.1 hri.2.2.2 (hr.below (hB0.trans (q.mono (Nat.le_of_lt hl0)))) hm hm2 (by
        cases hx : okL (2 ^ h.toNat) zs with
        | false => rfl
        | true => exact absurd ⟨hri, hx⟩ hno))
    clear hri hB0 hl0 hr hm hm2 hno
    go_wp2_with fail
    refine (R1.out _).mono ?_
    rintro e w1 ⟨rfl, hb1⟩
    have HW1 := Lib.hid hb1
    clear hb1 hc0 hc1
    obtain ⟨c0, c1⟩ := HC.out _ HW1.out
    go_wp2_with fail
    refine (R2.out _ HW1.out).mono ?_
    rintro e w2 ⟨rfl, hb2⟩
    have HW2 := Lib.hid (HW1.out.trans (hb2.mono HW1.out.size))
    clear hb2
    go_wp2
    go_ret
    exact ⟨rfl, HB0.out.trans (HW2.out.mono (Nat.le_of_lt HL0.out))⟩
  · have R1 := Lib.hid (fun u => RefChn.right_no n h hri u)
    clear hri hB0 hl0 hr hm hm2 hno
    go_wp2_with fail
    refine (R1.out _).mono ?_
    rintro e w1 ⟨rfl, hb1⟩
    have HW1 := Lib.hid hb1
    clear hb1
    go_wp2
    go_ret
    exact ⟨rfl, HB0.out.trans (HW1.out.mono (Nat.le_of_lt HL0.out))⟩


set_option maxHeartbeats 6400000 in
theorem proof_any (N H : Nat) (seed room V : ByteArray) (l : List Nat) (m : Nat) (a : Option Addr) (cap : Nat) (w : World) (hri : Right (N : Int) (H : Int)) (hr : IntsR w a (zl l)) (hm : l.length = m) (hm2 : m ≤ 1000000) (h0 : 0 < m) (hu : Up l) (hlt : ∀ x ∈ l, x < 2 ^ H)
    (hs : seed.size + room.size ≤ 400000) (hV : V = tx (proof N H seed.data.toList room.data.toList l)) :
    Calls Tryd.prog 15 #[.agg #[.int .i64 (N : Int), .int .i64 (H : Int)], .string seed, .string room, .slice a m cap] w fun e w' => e = .returned (.string V) ∧ Below w.heap.size w w' := by
  have hN : N ≤ 32 := by have := hri.2.1; omega
  have hH : H ≤ 8 := by have := hri.2.2.2; omega
  have hl8 := pow_256 H hH
  have hb0 : 2 ^ (H - 0) ≤ 256 := by rw [Nat.sub_zero]; exact hl8
  have hB0 := (Below.refl w.heap.size w).alloc (Nat.le_refl _) (.cells #[.int .i64 (N : Int), .int .i64 (H : Int)] 23)
  have R1 := Lib.hid (fun u => RefChn.right_yes N H hri u)
  have R2 := Lib.hid (fun (u : World) (q : Below w.heap.size w u) => show Calls Tryd.prog 32 #[.agg #[.int .i64 (N : Int), .int .i64 (H : Int)], .slice a m cap] u fun e w' => e = .returned (.bool true) ∧ Below u.heap.size u w' from
    rising_any (zl l) m a cap N H true u (by omega) (by omega) (hr.below q) (by rw [zl_length, hm]) hm2 (by
      rw [show ((H : Int).toNat) = H by omega, okL, okI_zl _ l 0 hu (fun n hn => by
        have h1 : ((n : Nat) : Int) < ((2 ^ H : Nat) : Int) := Int.ofNat_lt.2 (hlt n hn)
        rw [Int.natCast_pow] at h1
        exact h1) (fun n _ => by omega), zl_length, hm, decide_eq_true h0]
      rfl))
  have hnu := fun z => nums_up l hu z
  have hnl := fun z (hz : z ≤ H) => nums_lt l H hlt z hz
  have hnn := fun z => nums_length l z
  have hne := fun z => show (nums l z).length ≠ 0 from fun e => nums_ne l (by intro e; rw [e] at hm; simp at hm; omega) z (List.eq_nil_of_length_eq_zero e)
  have RS := Lib.hid (fun (z : Nat) (a : Option Addr) (cap x : Nat) (b : Bool) (u : World) (h : IntsR u a (zl (nums l z))) (hb : decide (x ∈ nums l z) = !b) => at_mem (nums l z) (nums l z).length a cap x b u h rfl (by have := hnn z; omega) hb)
  have RN := Lib.hid (fun (z : Nat) (hz : z < H) (k : Nat) (hkk : k < (nums l z).length) (P : ByteArray) (hP : P = tx (node N seed.data.toList room.data.toList z (sib (nums l z)[k]))) (u : World) => RefGrv.node_any N H seed room hri hs z (by omega) (sib (nums l z)[k]) P u (by
    have h1 := hnl z (by omega) _ (List.getElem_mem hkk)
    rw [show H - z = (H - z - 1) + 1 by omega, Nat.pow_succ, Nat.mul_comm] at h1 ⊢
    exact sib_lt _ _ h1) hP)
  have HNL := Lib.hid (fun (z : Nat) (hz : z ≤ H) (x : Nat) (hx : x ∈ nums l z) => show x ≤ 256 from by
    have h1 := hnl z hz x hx
    have h2 := pow_256 (H - z) (by omega)
    omega)
  have HNS := Lib.hid (fun z => node_length N seed.data.toList room.data.toList z · hN)
  obtain ⟨F, hF⟩ : ∃ F : Nat → List UInt8, F = fun z => proofP N seed.data.toList room.data.toList z (nums l z) := ⟨_, rfl⟩
  obtain ⟨Q, hQ⟩ : ∃ Q : Nat → Nat → List UInt8, Q = fun z k => Grv.part N seed.data.toList room.data.toList z (nums l z) k := ⟨_, rfl⟩
  have HQ0 := Lib.hid (show ∀ z, Q z 0 = [] from fun z => by rw [hQ]; rfl)
  have HQN := Lib.hid (show ∀ z k (hkk : k < (nums l z).length), Q z (k + 1) = Q z k ++ bring N seed.data.toList room.data.toList z (nums l z) (nums l z)[k] from fun z k hkk => by rw [hQ]; exact part_next N _ _ z _ k hkk)
  have HQF := Lib.hid (show ∀ z, Q z (nums l z).length = F z from fun z => by rw [hQ, hF]; exact part_all N _ _ z _ (hnu z))
  have HFU := Lib.hid (show ∀ z, (upto F z).length ≤ 1000000 * 32 * z from fun z => by
    have h1 := proof_length N z seed.data.toList room.data.toList l hN
    unfold proof at h1
    rw [← hF] at h1
    refine Nat.le_trans h1 (Nat.mul_le_mul_right _ (Nat.mul_le_mul (by omega) hN)))
  have HQL := Lib.hid (show ∀ z k, (Q z k).length ≤ 32000000 from fun z k => by
    rw [hQ]
    have h1 := part_length N seed.data.toList room.data.toList z (nums l z) k hN
    have h2 := hnn z
    show (Grv.part N _ _ z _ k).length ≤ _
    omega)
  have HV := Lib.hid (show V = tx (upto F H) from by rw [hV, proof, hF])
  have HNN := Lib.hid hnn
  have HNE := Lib.hid hne
  have HR := Lib.hid hr
  have HM := Lib.hid (show (nums l 0).length = m from hm)
  have HNU := Lib.hid hnu
  clear hF hQ hV hnu hnl hnn hne hs hri hr hu hlt h0 hm hl8 hb0
  have hc0 : (w.alloc (.cells #[.int .i64 (N : Int), .int .i64 (H : Int)] 23)).cell? ⟨w.heap.size, 0, none⟩ = some (.int .i64 (N : Int)) := by simp
  have hc1 : (w.alloc (.cells #[.int .i64 (N : Int), .int .i64 (H : Int)] 23)).cell? ⟨w.heap.size, 1, none⟩ = some (.int .i64 (H : Int)) := by simp
  have hl0 : w.heap.size < (w.alloc (.cells #[.int .i64 (N : Int), .int .i64 (H : Int)] 23)).heap.size := by simp
  go_enter Tryd.func15, Tryd.ntmps15
  go_upto_region 1 with (fail)
  generalize w.alloc (.cells #[.int .i64 (N : Int), .int .i64 (H : Int)] 23) = wz at *
  have HC := Lib.hid (fun (u : World) (q : Below wz.heap.size wz u) => (⟨(q.cell (p := ⟨w.heap.size, 0, none⟩) hl0).trans hc0, (q.cell (p := ⟨w.heap.size, 1, none⟩) hl0).trans hc1⟩ : u.cell? ⟨w.heap.size, 0, none⟩ = some (.int .i64 (N : Int)) ∧ u.cell? ⟨w.heap.size, 1, none⟩ = some (.int .i64 (H : Int))))
  have HB0 := Lib.hid hB0
  clear hB0 hl0
  go_wp2_with fail
  refine (R1.out _).mono ?_
  rintro e w1 ⟨rfl, hb1⟩
  have HY1 := Lib.hid hb1
  clear hb1 hc0 hc1
  obtain ⟨c0, c1⟩ := HC.out _ HY1.out
  go_wp2_with fail
  refine (R2.out _ (HB0.out.trans (HY1.out.mono HB0.out.size))).mono ?_
  rintro e w2 ⟨rfl, hb2⟩
  have HB1 := Lib.hid (HY1.out.trans (hb2.mono HY1.out.size))
  clear hb2 c0 c1 HY1
  have hbw := HB0.out.trans (HB1.out.mono HB0.out.size)
  obtain ⟨b, o, rfl, hb, hc⟩ := HR.out.below hbw (by rw [zl_length]; exact HNE.out 0)
  have hm0 : l.length = m := HM.out
  have hnews : ∀ j u, l[j]? = some u → (w2.alloc (.cells #[] 3)).cell? ⟨b, o + j, none⟩ = some (.int .i64 ((u : Nat) : Int)) := fun j u hu => by
    rw [World.cell?_alloc_lt _ _ _ hb]
    exact hc j _ (zl_at hu)
  have hown0 := World.ownsRow_made (base := w2.heap.size) (e := 3) (size := 1) w2 #[] 0 (Nat.le_refl _) (by omega) rfl
  go_wp2_with (at_builtin; refine append_ints_at rfl _ _ rfl w2.heap.size 0 _ [] rfl hown0 b o m cap l rfl hm0 hnews (by omega) (by simp) ?_)
  intro v' w3 hown3 hgrow3
  have HW3 := Lib.hid (((Below.refl w2.heap.size w2).alloc (Nat.le_refl _) (.cells #[] 3)).grown hgrow3 (by simp) (fun j hj => (hown0.lt j hj).1))
  obtain ⟨a3, c3, rfl, hm3, hi3⟩ := own_ints hown3
  have HI3 := Lib.hid hi3
  clear hown3 hgrow3 hown0 hnews hc hb hbw hm3 hi3 hm0
  obtain ⟨c0, c1⟩ := HC.out _ (HB1.out.trans (HW3.out.mono HB1.out.size))
  go_wp2_with fail
  clear c0 c1
  go_loopw [9, 10, 11, 12, 14, 29] (fun ov x _ _ _ i wr => ∃ (z : Nat) (a' : Option Addr) (c n : Nat) (t : ByteArray), z ≤ H ∧ i = .int .i64 z ∧ ov = .string t ∧ t = tx (upto F z) ∧ x = .slice a' n c ∧ n = (nums l z).length ∧ IntsR wr a' (zl (nums l z)) ∧ Below w2.heap.size w2 wr) (fun _ _ _ _ _ i _ => H - (intOf i).toNat)
  case atStart => exact ⟨0, a3, c3, m, ⟨#[]⟩, by omega, rfl, rfl, rfl, rfl, HM.out.symm, HI3.out, HW3.out⟩
  case round =>
    clear HW3 HI3
    obtain ⟨z, a', c, n, t, hz, rfl, rfl, ht, rfl, hn, hI, hbel⟩ := hrel
    obtain ⟨wo, rfl⟩ : ∃ wo, wo = wr := ⟨wr, rfl⟩
    obtain ⟨b4, o4, rfl, -⟩ := hI (by rw [zl_length]; exact HNE.out z)
    have HI := Lib.hid hI
    have HW := Lib.hid hbel
    have HN := Lib.hid hn
    have HT := Lib.hid ht
    have hn2 : n ≤ 1000000 := by rw [hn]; have := HNN.out z; have := HM.out; have h3 : (nums l 0).length = l.length := rfl; omega
    clear hI hbel hn ht
    by_cases hlt : z < H
    · go_wp2_with fail
      go_loopw [9, 12, 14, 34] (fun ov v _ i wr => ∃ (k j : Nat) (t : ByteArray), k ≤ n ∧ i = .int .i64 k ∧ ov = .string t ∧ t = tx (upto F z ++ Q z k) ∧ (halves ((nums l z).take k)).length = j ∧ wr.ownsRow wo.heap.size 3 1 v j (Ints.intsV (halves ((nums l z).take k))) ∧ Below wo.heap.size wo wr) (fun _ _ _ i _ => n - (intOf i).toNat)
      case atStart => exact ⟨0, 0, t, by omega, rfl, rfl, by rw [HQ0.out, List.append_nil]; exact HT.out, rfl, ⟨rfl, .inl ⟨rfl, rfl⟩⟩, Below.refl _ _⟩
      case round =>
        obtain ⟨k, j, t, hk, rfl, rfl, ht, hj, hown, hbel⟩ := hrel
        obtain ⟨a1, c1, rfl, -, hi1⟩ := own_ints hown
        have HI1 := Lib.hid hi1
        have HOWN := Lib.hid hown
        have HWI := Lib.hid hbel
        have HT2 := Lib.hid ht
        have HJ := Lib.hid hj
        clear hi1 hown hbel ht hj
        by_cases hltk : k < n
        · have hkl : k < (nums l z).length := by rw [← HN.out]; exact hltk
          obtain ⟨x, hx⟩ : ∃ x, x = (nums l z)[k] := ⟨_, rfl⟩
          obtain ⟨y, hy⟩ : ∃ y, y = sib x := ⟨_, rfl⟩
          obtain ⟨y2, hy2⟩ : ∃ y2, y2 = x / 2 := ⟨_, rfl⟩
          have hIr := HI.out.below HWI.out
          obtain ⟨b5, o5, he5, hb5, hc5⟩ := hIr (by rw [zl_length]; exact HNE.out z)
          cases he5
          have hcc := hc5 k (x : Int) (zl_at (by rw [hx]; exact List.getElem?_eq_getElem hkl))
          have hxb : x ≤ 256 := HNL.out z hz x (by rw [hx]; exact List.getElem_mem hkl)
          have hxo : bits .xor .i64 (x : Int) 1 = (y : Int) := by rw [hy]; exact xor_one x (by omega)
          have hsh : (x : Int) / 2 = (y2 : Int) := by rw [hy2]; rfl
          have hqn := HQN.out z k hkl
          rw [← hx] at hqn
          have hj8 : j ≤ 1000000 := by
            rw [← HJ.out]
            have h1 := halves_length ((nums l z).take k)
            have h2 : ((nums l z).take k).length ≤ (nums l z).length := by simp [Nat.min_le_right]
            rw [← HN.out] at h2
            omega
          have hsnoc := halves_snoc ((nums l z).take k) x (by
            rw [hx, ← List.take_succ_eq_append_getElem hkl]
            exact (HNU.out z).sublist (List.take_sublist _ _))
          have hts : (nums l z).take k ++ [x] = (nums l z).take (k + 1) := by rw [hx, List.take_succ_eq_append_getElem hkl]
          rw [hts, ← hy2] at hsnoc
          have HSN := Lib.hid hsnoc
          have HIR := Lib.hid hIr
          clear hsnoc hts hy2 hc5 hb5 hIr
          have hTs : t.size ≤ 1000000000 := by
            have e : t.size = (upto F z ++ Q z k).length := by rw [HT2.out]; rfl
            rw [e, List.length_append]
            have h1 := HFU.out z
            have h2 := HQL.out z k
            omega
          have RB := Lib.hid (fun (u : World) (hu : IntsR u a1 (zl (halves ((nums l z).take k)))) (b : Bool) (hb : decide (y2 ∈ halves ((nums l z).take k)) = !b) => at_mem (halves ((nums l z).take k)) j a1 c1 y2 b u hu HJ.out hj8 hb)
          by_cases hmem : y ∈ nums l z
          · have RS1 := RS.out z (some ⟨b4, o4, none⟩) c y false wr HIR.out (by simp [hmem])
            rw [← HN.out] at RS1
            have RS2 := Lib.hid RS1
            have HQ2 := Lib.hid (show t = tx (upto F z ++ Q z (k + 1)) from by rw [hqn, bring, if_pos (by rw [← hy]; exact hmem), List.append_nil]; exact HT2.out)
            clear RS1 hqn hx hkl hmem hy
            go_wp2_with fail
            refine RS2.out.mono ?_
            rintro e w5 ⟨r1, rfl, hr1, hb5⟩
            have HI5 := Lib.hid (HI1.out.below hb5)
            have HOWN5 := Lib.hid (Strs.own_below HOWN.out hb5)
            have HW5 := Lib.hid (HWI.out.trans (hb5.mono HWI.out.size))
            clear hb5 hcc
            by_cases hm2' : y2 ∈ halves ((nums l z).take k)
            · have RB1 := Lib.hid (RB.out _ HI5.out false (by simp [hm2']))
              have hst : halves ((nums l z).take (k + 1)) = halves ((nums l z).take k) := by rw [HSN.out, if_pos hm2']
              have HJ6 := Lib.hid (show (halves ((nums l z).take (k + 1))).length = j from by rw [hst]; exact HJ.out)
              have ho := HOWN5.out
              rw [← hst] at ho
              have HO6 := Lib.hid ho
              clear hm2' hst ho
              go_wp2_with fail
              refine RB1.out.mono ?_
              rintro e w6 ⟨r2, rfl, hr2, hb6⟩
              have HO7 := Lib.hid (Strs.own_below HO6.out hb6)
              have HW7 := Lib.hid (HW5.out.trans (hb6.mono HW5.out.size))
              clear hb6 hsh
              go_wp2
              go_roundw
              case rel => exact ⟨k + 1, j, t, by omega, by go_num, rfl, HQ2.out, HJ6.out, HO7.out, HW7.out⟩
              case measure => simp [intOf]; omega
            · have RB1 := Lib.hid (RB.out _ HI5.out true (by simp [hm2']))
              have hst : halves ((nums l z).take (k + 1)) = halves ((nums l z).take k) ++ [y2] := by rw [HSN.out, if_neg hm2']
              have HST := Lib.hid hst
              clear hm2' hst
              go_wp2_with fail
              refine RB1.out.mono ?_
              rintro e w6 ⟨r2, rfl, hr2, hb6⟩
              have HO7 := Lib.hid (Strs.own_below HOWN5.out hb6)
              have HW7 := Lib.hid (HW5.out.trans (hb6.mono HW5.out.size))
              clear hb6
              go_wp2_with (at_builtin; refine Ints.append_ints rfl _ _ rfl wo.heap.size j _ (halves ((nums l z).take k)) rfl (HO7.out.alloc _) w6.heap.size 1 1 [y2] rfl rfl (ints_one _ _ _) (by omega) (Nat.le_trans HW7.out.size (by simp)) ?_)
              intro v8 w8 hown8 hgrow8
              have HW8 := Lib.hid ((HW7.out.alloc HW7.out.size (.cells #[.int .i64 (y2 : Int)] 3)).grown hgrow8 (Nat.le_trans HW7.out.size (by simp)) (fun j hj => (HO7.out.lt j hj).1))
              rw [← HST.out] at hown8
              have HO8 := Lib.hid hown8
              have HJ8 := Lib.hid (show (halves ((nums l z).take (k + 1))).length = j + 1 from by rw [HST.out, List.length_append, HJ.out]; rfl)
              clear hown8 hgrow8 hsh
              go_wp2
              go_roundw
              case rel => exact ⟨k + 1, j + 1, t, by omega, by go_num, rfl, HQ2.out, HJ8.out, HO8.out, HW8.out⟩
              case measure => simp [intOf]; omega
          · have RS1 := RS.out z (some ⟨b4, o4, none⟩) c y true wr HIR.out (by simp [hmem])
            rw [← HN.out] at RS1
            have RS2 := Lib.hid RS1
            obtain ⟨P, hP⟩ : ∃ P, P = tx (node N seed.data.toList room.data.toList z y) := ⟨_, rfl⟩
            have hPs : P.size ≤ 32 := by
              have e : P.size = N := by rw [hP]; exact HNS.out y z
              omega
            have hcat : t.size + P.size ≤ 2000000000 := by omega
            obtain ⟨t', ht'⟩ : ∃ t', t' = t ++ P := ⟨_, rfl⟩
            have HQ2 := Lib.hid (show t' = tx (upto F z ++ Q z (k + 1)) from by
              rw [hqn, bring, if_neg (by rw [← hy]; exact hmem), ht', HT2.out, hP, hy]
              apply ByteArray.ext
              simp)
            have RN1 := Lib.hid (fun u => RN.out z hlt k hkl P (by rw [hP, hy, hx]) u)
            rw [← hx, ← hy] at RN1
            have HT' := Lib.hid ht'
            clear RS1 hqn hx hkl hmem hy hP hPs ht'
            go_wp2_with fail
            refine RS2.out.mono ?_
            rintro e w4 ⟨r1, rfl, hr1, hb4⟩
            have HI4 := Lib.hid (HI1.out.below hb4)
            have HOWN4 := Lib.hid (Strs.own_below HOWN.out hb4)
            have HW4 := Lib.hid (HWI.out.trans (hb4.mono HWI.out.size))
            clear hb4 hcc
            obtain ⟨c0, c1⟩ := HC.out _ (HB1.out.trans ((HW.out.trans (HW4.out.mono HW.out.size)).mono HB1.out.size))
            go_wp2_with fail
            refine (RN1.out _).mono ?_
            rintro e w5 ⟨rfl, hb5⟩
            have HI5 := Lib.hid (HI4.out.below hb5)
            have HOWN5 := Lib.hid (Strs.own_below HOWN4.out hb5)
            have HW5 := Lib.hid (HW4.out.trans (hb5.mono HW4.out.size))
            clear hb5 hxo c0 c1
            go_upto_region 14 with (fail)
            rw [← HT'.out]
            clear hcat hTs
            by_cases hm2' : y2 ∈ halves ((nums l z).take k)
            · have RB1 := Lib.hid (RB.out _ HI5.out false (by simp [hm2']))
              have hst : halves ((nums l z).take (k + 1)) = halves ((nums l z).take k) := by rw [HSN.out, if_pos hm2']
              have HJ6 := Lib.hid (show (halves ((nums l z).take (k + 1))).length = j from by rw [hst]; exact HJ.out)
              have ho := HOWN5.out
              rw [← hst] at ho
              have HO6 := Lib.hid ho
              clear hm2' hst ho
              go_wp2_with fail
              refine RB1.out.mono ?_
              rintro e w6 ⟨r2, rfl, hr2, hb6⟩
              have HO7 := Lib.hid (Strs.own_below HO6.out hb6)
              have HW7 := Lib.hid (HW5.out.trans (hb6.mono HW5.out.size))
              clear hb6 hsh
              go_wp2
              go_roundw
              case rel => exact ⟨k + 1, j, t', by omega, by go_num, rfl, HQ2.out, HJ6.out, HO7.out, HW7.out⟩
              case measure => simp [intOf]; omega
            · have RB1 := Lib.hid (RB.out _ HI5.out true (by simp [hm2']))
              have hst : halves ((nums l z).take (k + 1)) = halves ((nums l z).take k) ++ [y2] := by rw [HSN.out, if_neg hm2']
              have HST := Lib.hid hst
              clear hm2' hst
              go_wp2_with fail
              refine RB1.out.mono ?_
              rintro e w6 ⟨r2, rfl, hr2, hb6⟩
              have HO7 := Lib.hid (Strs.own_below HOWN5.out hb6)
              have HW7 := Lib.hid (HW5.out.trans (hb6.mono HW5.out.size))
              clear hb6
              go_wp2_with (at_builtin; refine Ints.append_ints rfl _ _ rfl wo.heap.size j _ (halves ((nums l z).take k)) rfl (HO7.out.alloc _) w6.heap.size 1 1 [y2] rfl rfl (ints_one _ _ _) (by omega) (Nat.le_trans HW7.out.size (by simp)) ?_)
              intro v8 w8 hown8 hgrow8
              have HW8 := Lib.hid ((HW7.out.alloc HW7.out.size (.cells #[.int .i64 (y2 : Int)] 3)).grown hgrow8 (Nat.le_trans HW7.out.size (by simp)) (fun j hj => (HO7.out.lt j hj).1))
              rw [← HST.out] at hown8
              have HO8 := Lib.hid hown8
              have HJ8 := Lib.hid (show (halves ((nums l z).take (k + 1))).length = j + 1 from by rw [HST.out, List.length_append, HJ.out]; rfl)
              clear hown8 hgrow8 hsh
              go_wp2
              go_roundw
              case rel => exact ⟨k + 1, j + 1, t', by omega, by go_num, rfl, HQ2.out, HJ8.out, HO8.out, HW8.out⟩
              case measure => simp [intOf]; omega
        · obtain rfl : k = n := by omega
          have hh : halves ((nums l z).take k) = nums l (z + 1) := by rw [HN.out, List.take_length]; rfl
          have hi2 := HI1.out
          rw [hh] at hi2
          have HI2 := Lib.hid hi2
          have HT3 := Lib.hid (show t = tx (upto F (z + 1)) from by rw [HT2.out, HN.out, HQF.out]; rfl)
          have HJ2 := Lib.hid (show j = (nums l (z + 1)).length from by rw [← HJ.out, hh])
          have HW5 := Lib.hid (HW.out.trans (HWI.out.mono HW.out.size))
          clear hh hi2
          go_wp2
          go_roundw
          case rel => exact ⟨z + 1, a1, c1, j, t, by omega, by go_num, rfl, HT3.out, rfl, HJ2.out, HI2.out, HW5.out⟩
          case measure => simp [intOf]; omega
    · obtain rfl : z = H := by omega
      have hVV : t = V := by rw [HV.out, HT.out]
      subst hVV
      go_wp2
      go_ret
      exact ⟨rfl, HB0.out.trans ((HB1.out.trans (HW.out.mono HB1.out.size)).mono HB0.out.size)⟩
end Go.Proofs.YtncafbejgidliaaDoor.RefGrv

namespace Go.Proofs.YtncafbejgidliaaDoor.RefGrv
open Go.RowKit Mur Sha Chn Grv
open LawProves (own_ints own_texts own_apart)
set_option maxRecDepth 100000

theorem append_strs_at {ops : Array Oper} {rest : List Oper} {o : Oper} {a : Act} {W : World} {Q : Exit → Act → World → Prop} (hgd : o.guard = none) (s x : Operand)
    (ho : o.op = .call { callee := .builtin .append, args := #[s, x], argTypes := #[36, 36] }) (base n : Nat) (v : Value) (l : List ByteArray) (hs : a.eval s = v) (hown : W.ownsRow base 9 1 v n (Strs.strsV l))
    (b off m c : Nat) (news : List ByteArray) (hx : a.eval x = .slice (some ⟨b, off, none⟩) m c) (hm : news.length = m) (hnews : ∀ j u, news[j]? = some u → W.cell? ⟨b, off + j, none⟩ = some (.string u)) (hn : n + m ≤ 8796093022208) (hbase : base ≤ W.heap.size)
    (h : ∀ v' w', w'.ownsRow base 9 1 v' (n + m) (Strs.strsV (l ++ news)) → W.grownBy w' v.ownBlock → wpList Tryd.prog ops Q rest (a.put o.dst v') w') : wpList Tryd.prog ops Q (o :: rest) a W := by
  obtain ⟨i0, hi, hz0, hz1, hz2⟩ := info_parts Strs.info_str
  refine wpList_append_own W hgd s x 36 ho base 9 i0 (.string ⟨#[]⟩) 1 16 Tryd.underlying36 hi hz0 hz1 hz2 rfl (by decide) v n (Strs.strsV l) hs hown ⟨b, off, none⟩ m c (Strs.strsV news) hx (by rw [Strs.strsV_length]; omega) (fun j u hu => by
    have hj : j < news.length := by have := (List.getElem?_eq_some_iff.1 hu).1; rwa [Strs.strsV_length] at this
    have e := Strs.strsV_at (List.getElem?_eq_getElem hj)
    rw [e] at hu
    have e2 : (⟨b, off, none⟩ : Addr).add j = ⟨b, off + j, none⟩ := Go.WideShapes.add_plain b off j
    rw [e2, ← Option.some.inj hu]
    exact hnews j _ (List.getElem?_eq_getElem hj)) (Strs.strsV_one news) (by unfold maxLen; omega) (by omega) hbase ?_
  intro v' w' h1 h2 _
  rw [← Strs.strsV_append] at h1
  exact h v' w' h1 h2

/-- Numbers and texts of what is at hand. -/
def numsOf (hd : Hand) : List Nat := hd.map Prod.fst
def textsOf (hd : Hand) : List ByteArray := hd.map fun q => tx q.2
theorem numsOf_length (hd : Hand) : (numsOf hd).length = hd.length := by simp [numsOf]
theorem textsOf_length (hd : Hand) : (textsOf hd).length = hd.length := by simp [textsOf]
theorem numsOf_at {hd : Hand} {i : Nat} {q : Nat × List UInt8} (h : hd[i]? = some q) : (numsOf hd)[i]? = some q.1 := by simp [numsOf, h]
theorem textsOf_at {hd : Hand} {i : Nat} {q : Nat × List UInt8} (h : hd[i]? = some q) : (textsOf hd)[i]? = some (tx q.2) := by simp [textsOf, h]
theorem numsOf_next (hd : Hand) (n : Nat) (x : List UInt8) : numsOf (hd ++ [(n, x)]) = numsOf hd ++ [n] := by simp [numsOf]
theorem textsOf_next (hd : Hand) (n : Nat) (x : List UInt8) : textsOf (hd ++ [(n, x)]) = textsOf hd ++ [tx x] := by simp [textsOf]
theorem numsOf_up (l : List Nat) (ns : List ByteArray) (h : ns.length = l.length) : numsOf (handUp l ns) = l := by
  unfold numsOf handUp
  exact List.map_fst_zip (by simp [h])
theorem textsOf_up (l : List Nat) (ns : List ByteArray) (h : ns.length = l.length) : textsOf (handUp l ns) = ns := by
  unfold textsOf handUp
  have : (l.zip (ns.map fun s => s.data.toList)).map (fun q => tx q.2) = ((l.zip (ns.map fun s => s.data.toList)).map Prod.snd).map tx := by rw [List.map_map]; rfl
  rw [this, List.map_snd_zip (by simp [h]), List.map_map]
  exact List.map_id _
/-- Its numbers one height up, and how long the nodes are. -/
theorem climbed_nums (N : Nat) (room : List UInt8) (z : Nat) (hN : N ≤ 32) (hd : Hand) (p : List UInt8) : ∀ r, climbed N room z hd p = some r → numsOf r.1 = halves (numsOf hd) ∧ ∀ q ∈ r.1, q.2.length = N := by
  fun_induction climbed N room z hd p with
  | case1 p => rintro r h; cases h; exact ⟨rfl, fun q hq => by cases hq⟩
  | case2 n x p hlt => rintro r h; cases h
  | case3 n x p hlt =>
    rintro r h
    cases h
    refine ⟨rfl, fun q hq => ?_⟩
    simp only [List.mem_singleton] at hq
    subst hq
    exact asOneT_length N room z n x (p.take N) hN
  | case4 n x y l p ih =>
    rintro r h
    cases hc : climbed N room z l p with
    | none => rw [hc] at h; cases h
    | some r' =>
      rw [hc] at h
      cases h
      obtain ⟨h1, h2⟩ := ih r' hc
      refine ⟨?_, fun q hq => ?_⟩
      · show n / 2 :: numsOf r'.1 = halves (n :: sib n :: numsOf l)
        rw [halves, if_pos rfl, h1]
      · rcases List.mem_cons.1 hq with rfl | hq
        · exact asOneT_length N room z n x y hN
        · exact h2 q hq
  | case5 n x m y l p hne hlt => rintro r h; cases h
  | case6 n x m y l p hne hlt ih =>
    rintro r h
    cases hc : climbed N room z ((m, y) :: l) (p.drop N) with
    | none => rw [hc] at h; cases h
    | some r' =>
      rw [hc] at h
      cases h
      obtain ⟨h1, h2⟩ := ih r' hc
      refine ⟨?_, fun q hq => ?_⟩
      · show n / 2 :: numsOf r'.1 = halves (n :: m :: numsOf l)
        rw [halves, if_neg hne, h1]
        rfl
      · rcases List.mem_cons.1 hq with rfl | hq
        · exact asOneT_length N room z n x (p.take N) hN
        · exact h2 q hq

set_option maxHeartbeats 3200000 in
theorem many_no (n h : Int) (room pr : ByteArray) (zs : List Int) (m k : Nat) (a a2 : Option Addr) (cap cap2 : Nat) (w : World) (hr : IntsR w a zs) (hm : zs.length = m) (hm2 : m ≤ 1000000) (hno : ¬ (Right n h ∧ okL (2 ^ h.toNat) zs = true ∧ k = m)) :
    Calls Tryd.prog 18 #[.agg #[.int .i64 n, .int .i64 h], .string room, .slice a m cap, .slice a2 k cap2, .string pr] w fun e w' => e = .returned (.string ⟨#[]⟩) ∧ Below w.heap.size w w' := by
  have hB0 := (Below.refl w.heap.size w).alloc (Nat.le_refl _) (.cells #[.int .i64 n, .int .i64 h] 23)
  have hc0 : (w.alloc (.cells #[.int .i64 n, .int .i64 h] 23)).cell? ⟨w.heap.size, 0, none⟩ = some (.int .i64 n) := by simp
  have hc1 : (w.alloc (.cells #[.int .i64 n, .int .i64 h] 23)).cell? ⟨w.heap.size, 1, none⟩ = some (.int .i64 h) := by simp
  have hl0 : w.heap.size < (w.alloc (.cells #[.int .i64 n, .int .i64 h] 23)).heap.size := by simp
  go_enter Tryd.func18, Tryd.ntmps18
  go_upto_region 1 with (fail)
  generalize w.alloc (.cells #[.int .i64 n, .int .i64 h] 23) = wz at *
  have HC := Lib.hid (fun (u : World) (q : Below wz.heap.size wz u) => (⟨(q.cell (p := ⟨w.heap.size, 0, none⟩) hl0).trans hc0, (q.cell (p := ⟨w.heap.size, 1, none⟩) hl0).trans hc1⟩ :
    u.cell? ⟨w.heap.size, 0, none⟩ = some (.int .i64 n) ∧ u.cell? ⟨w.heap.size, 1, none⟩ = some (.int .i64 h)))
  have HB0 := Lib.hid hB0
  have HL0 := Lib.hid hl0
  by_cases hri : Right n h
  · have R1 := Lib.hid (fun u => RefChn.right_yes n h hri u)
    cases hok : okL (2 ^ h.toNat) zs with
    | true =>
      have hkm : k ≠ m := fun e => hno ⟨hri, hok, e⟩
      have hne1 : ((k : Int) != (m : Int)) = true := by simp; omega
      have R2 := Lib.hid (fun (u : World) (q : Below wz.heap.size wz u) => show Calls Tryd.prog 32 #[.agg #[.int .i64 n, .int .i64 h], .slice a m cap] u fun e w' => e = .returned (.bool true) ∧ Below u.heap.size u w' from
        rising_any zs m a cap n h true u hri.2.2.1 hri.2.2.2 (hr.below (hB0.trans (q.mono (Nat.le_of_lt hl0)))) hm hm2 hok.symm)
      clear hri hB0 hl0 hr hm hm2 hno hok hkm
      go_wp2_with fail
      refine (R1.out _).mono ?_
      rintro e w1 ⟨rfl, hb1⟩
      have HW1 := Lib.hid hb1
      clear hb1 hc0 hc1
      obtain ⟨c0, c1⟩ := HC.out _ HW1.out
      go_wp2_with fail
      refine (R2.out _ HW1.out).mono ?_
      rintro e w2 ⟨rfl, hb2⟩
      have HW2 := Lib.hid (HW1.out.trans (hb2.mono HW1.out.size))
      clear hb2
      go_wp2
      go_ret
      exact ⟨rfl, HB0.out.trans (HW2.out.mono (Nat.le_of_lt HL0.out))⟩
    | false =>
      have R2 := Lib.hid (fun (u : World) (q : Below wz.heap.size wz u) => show Calls Tryd.prog 32 #[.agg #[.int .i64 n, .int .i64 h], .slice a m cap] u fun e w' => e = .returned (.bool false) ∧ Below u.heap.size u w' from
        rising_any zs m a cap n h false u hri.2.2.1 hri.2.2.2 (hr.below (hB0.trans (q.mono (Nat.le_of_lt hl0)))) hm hm2 hok.symm)
      clear hri hB0 hl0 hr hm hm2 hno hok
      go_wp2_with fail
      refine (R1.out _).mono ?_
      rintro e w1 ⟨rfl, hb1⟩
      have HW1 := Lib.hid hb1
      clear hb1 hc0 hc1
      obtain ⟨c0, c1⟩ := HC.out _ HW1.out
      go_wp2_with fail
      refine (R2.out _ HW1.out).mono ?_
      rintro e w2 ⟨rfl, hb2⟩
      have HW2 := Lib.hid (HW1.out.trans (hb2.mono HW1.out.size))
      clear hb2
      go_wp2
      go_ret
      exact ⟨rfl, HB0.out.trans (HW2.out.mono (Nat.le_of_lt HL0.out))⟩
  · have R1 := Lib.hid (fun u => RefChn.right_no n h hri u)
    clear hri hB0 hl0 hr hm hm2 hno
    go_wp2_with fail
    refine (R1.out _).mono ?_
    rintro e w1 ⟨rfl, hb1⟩
    have HW1 := Lib.hid hb1
    clear hb1
    go_wp2
    go_ret
    exact ⟨rfl, HB0.out.trans (HW1.out.mono (Nat.le_of_lt HL0.out))⟩


set_option maxHeartbeats 6400000 in
theorem many_any (N H : Nat) (room pr V : ByteArray) (l : List Nat) (ns : List ByteArray) (m : Nat) (a a2 : Option Addr) (cap cap2 : Nat) (w : World) (hri : Right (N : Int) (H : Int)) (hr : IntsR w a (zl l)) (hr2 : StrsR w a2 ns) (hm : l.length = m) (hm2 : m ≤ 1000000) (hns : ns.length = m) (h0 : 0 < m) (hu : Up l) (hlt : ∀ x ∈ l, x < 2 ^ H)
    (hsz : ∀ s ∈ ns, s.size ≤ 1000) (hs : room.size ≤ 400000) (hV : V = tx (many N room.data.toList H 0 (handUp l ns) pr.data.toList)) :
    Calls Tryd.prog 18 #[.agg #[.int .i64 (N : Int), .int .i64 (H : Int)], .string room, .slice a m cap, .slice a2 m cap2, .string pr] w fun e w' => e = .returned (.string V) ∧ Below w.heap.size w w' := by
  have hN : N ≤ 32 := by have := hri.2.1; omega
  have hN2 : 2 ≤ N := by have := hri.1; omega
  have hH : H ≤ 8 := by have := hri.2.2.2; omega
  have hl8 := pow_256 H hH
  have hB0 := (Below.refl w.heap.size w).alloc (Nat.le_refl _) (.cells #[.int .i64 (N : Int), .int .i64 (H : Int)] 23)
  have R1 := Lib.hid (fun u => RefChn.right_yes N H hri u)
  have R2 := Lib.hid (fun (u : World) (q : Below w.heap.size w u) => show Calls Tryd.prog 32 #[.agg #[.int .i64 (N : Int), .int .i64 (H : Int)], .slice a m cap] u fun e w' => e = .returned (.bool true) ∧ Below u.heap.size u w' from
    rising_any (zl l) m a cap N H true u (by omega) (by omega) (hr.below q) (by rw [zl_length, hm]) hm2 (by
      rw [show ((H : Int).toNat) = H by omega, okL, okI_zl _ l 0 hu (fun n hn => by
        have h1 : ((n : Nat) : Int) < ((2 ^ H : Nat) : Int) := Int.ofNat_lt.2 (hlt n hn)
        rw [Int.natCast_pow] at h1
        exact h1) (fun n _ => by omega), zl_length, hm, decide_eq_true h0]
      rfl))
  have hne1 : ((m : Int) != (m : Int)) = false := by simp
  have RP := Lib.hid (fun (z at' : Nat) (s U : ByteArray) (hz : z ≤ 100) (ha : at' ≤ 1000000) (hs2 : s.size ≤ 10000) (hU : U = tx (pairT N room.data.toList (z + 1) at' s.data.toList)) (u : World) => show Calls Tryd.prog 24 #[.agg #[.int .i64 (N : Int), .int .i64 (H : Int)], .string room, .int .i64 ((z : Int) + 1), .int .i64 (at' : Int), .string s] u fun e w' => e = .returned (.string U) ∧ Below u.heap.size u w' from
    pair_any N (z + 1) at' H room s U u hN (by omega) ha (by omega) hU)
  obtain ⟨hd, hhd⟩ : ∃ hd, hd = handUp l ns := ⟨_, rfl⟩
  have hdn : numsOf hd = l := by rw [hhd]; exact numsOf_up l ns (by omega)
  have hdt : textsOf hd = ns := by rw [hhd]; exact textsOf_up l ns (by omega)
  have hdl : hd.length = m := by rw [hhd, handUp_length l ns (by omega), hm]
  have hdb : ∀ q ∈ hd, q.1 ≤ 1000000 ∧ q.2.length ≤ 1000 := fun q hq => by
    rw [hhd] at hq
    obtain ⟨h1, h2⟩ := List.of_mem_zip hq
    refine ⟨by have := hlt _ h1; omega, ?_⟩
    obtain ⟨s, hs1, hs2⟩ := List.mem_map.1 h2
    rw [← hs2]
    exact hsz s hs1
  have HDU := Lib.hid (show Up (numsOf hd) from by rw [hdn]; exact hu)
  have HDB := Lib.hid hdb
  have HV := Lib.hid (show V = tx (many N room.data.toList H 0 hd pr.data.toList) from by rw [hV, hhd])
  have HR := Lib.hid hr
  have HR2 := Lib.hid hr2
  have HM := Lib.hid hm
  have HNS := Lib.hid hns
  have HDL := Lib.hid hdl
  have HDN := Lib.hid hdn
  have HDT := Lib.hid hdt
  clear hdb hV hri hr hr2 hm hns hu hlt hsz hs hhd hl8 hdl hdn hdt
  have hc0 : (w.alloc (.cells #[.int .i64 (N : Int), .int .i64 (H : Int)] 23)).cell? ⟨w.heap.size, 0, none⟩ = some (.int .i64 (N : Int)) := by simp
  have hc1 : (w.alloc (.cells #[.int .i64 (N : Int), .int .i64 (H : Int)] 23)).cell? ⟨w.heap.size, 1, none⟩ = some (.int .i64 (H : Int)) := by simp
  have hl0 : w.heap.size < (w.alloc (.cells #[.int .i64 (N : Int), .int .i64 (H : Int)] 23)).heap.size := by simp
  go_enter Tryd.func18, Tryd.ntmps18
  go_upto_region 1 with (fail)
  generalize w.alloc (.cells #[.int .i64 (N : Int), .int .i64 (H : Int)] 23) = wz at *
  have HC := Lib.hid (fun (u : World) (q : Below wz.heap.size wz u) => (⟨(q.cell (p := ⟨w.heap.size, 0, none⟩) hl0).trans hc0, (q.cell (p := ⟨w.heap.size, 1, none⟩) hl0).trans hc1⟩ : u.cell? ⟨w.heap.size, 0, none⟩ = some (.int .i64 (N : Int)) ∧ u.cell? ⟨w.heap.size, 1, none⟩ = some (.int .i64 (H : Int))))
  have HB0 := Lib.hid hB0
  clear hB0 hl0
  go_wp2_with fail
  refine (R1.out _).mono ?_
  rintro e w1 ⟨rfl, hb1⟩
  have HY1 := Lib.hid hb1
  clear hb1 hc0 hc1
  obtain ⟨c0, c1⟩ := HC.out _ HY1.out
  go_wp2_with fail
  refine (R2.out _ (HB0.out.trans (HY1.out.mono HB0.out.size))).mono ?_
  rintro e w2 ⟨rfl, hb2⟩
  have HB1 := Lib.hid (HY1.out.trans (hb2.mono HY1.out.size))
  clear hb2 c0 c1 HY1
  have hbw := HB0.out.trans (HB1.out.mono HB0.out.size)
  obtain ⟨b, o, rfl, hb, hc⟩ := HR.out.below hbw (by rw [zl_length]; have := HM.out; omega)
  obtain ⟨b2, o2, rfl, hb2, hc2⟩ := HR2.out.below hbw (by have := HNS.out; omega)
  have hm0 : l.length = m := HM.out
  have hm02 : ns.length = m := HNS.out
  have hnews : ∀ j u, l[j]? = some u → (w2.alloc (.cells #[] 3)).cell? ⟨b, o + j, none⟩ = some (.int .i64 ((u : Nat) : Int)) := fun j u hu => by
    rw [World.cell?_alloc_lt _ _ _ hb]
    exact hc j _ (zl_at hu)
  have hown0 := World.ownsRow_made (base := w2.heap.size) (e := 3) (size := 1) w2 #[] 0 (Nat.le_refl _) (by omega) rfl
  go_wp2_with (at_builtin; refine append_ints_at rfl _ _ rfl w2.heap.size 0 _ [] rfl hown0 b o m cap l rfl hm0 hnews (by omega) (by simp) ?_)
  intro v3 w3 hown3 hgrow3
  have hb3 := ((Below.refl w2.heap.size w2).alloc (Nat.le_refl _) (.cells #[] 3)).grown hgrow3 (by simp) (fun j hj => (hown0.lt j hj).1)
  have hnews2 : ∀ j u, ns[j]? = some u → (w3.alloc (.cells #[] 9)).cell? ⟨b2, o2 + j, none⟩ = some (.string u) := fun j u hu => by
    rw [World.cell?_alloc_lt _ _ _ (Nat.lt_of_lt_of_le hb2 hb3.size)]
    exact (hb3.cell (p := ⟨b2, o2 + j, none⟩) hb2).trans (hc2 j _ hu)
  have hown02 := World.ownsRow_made (base := w3.heap.size) (e := 9) (size := 1) w3 #[] 0 (Nat.le_refl _) (by omega) rfl
  have HO3 := Lib.hid hown3
  have HB3 := Lib.hid hb3
  clear hown3 hgrow3 hb3
  go_wp2_with (at_builtin; refine append_strs_at rfl _ _ rfl w3.heap.size 0 _ [] rfl hown02 b2 o2 m cap2 ns rfl hm02 hnews2 (by omega) (by simp) ?_)
  intro v4 w4 hown4 hgrow4
  have hb4 := ((Below.refl w3.heap.size w3).alloc (Nat.le_refl _) (.cells #[] 9)).grown hgrow4 (by simp) (fun j hj => (hown02.lt j hj).1)
  have ho3 := Strs.own_below HO3.out hb4
  obtain ⟨a3, c3, rfl, -, hi3⟩ := own_ints ho3
  obtain ⟨a4, c4, rfl, -, hi4⟩ := own_texts hown4
  have hi3b : IntsR w4 a3 (zl (numsOf hd)) := by rw [HDN.out]; exact hi3
  have hi4b : StrsR w4 a4 (textsOf hd) := by rw [HDT.out]; exact hi4
  have HI3 := Lib.hid hi3b
  have HI4 := Lib.hid hi4b
  have HW4 := Lib.hid (HB3.out.trans (hb4.mono HB3.out.size))
  clear hown4 hgrow4 hown0 hown02 hnews hnews2 hc hb hc2 hb2 hbw hi3 hi4 hi3b hi4b hm0 hm02 ho3 hb4 HO3 HB3
  obtain ⟨c0, c1⟩ := HC.out _ (HB1.out.trans (HW4.out.mono HB1.out.size))
  go_wp2_with fail
  clear c0 c1
  go_loopw [4, 11, 12, 13, 14, 15, 16, 17, 18, 19, 44] (fun pv x1 x2 _ _ _ _ _ _ _ i wr => ∃ (z n : Nat) (a1 a2 : Option Addr) (d1 d2 : Nat) (h : Hand) (p : ByteArray), z ≤ H ∧ i = .int .i64 z ∧ pv = .string p ∧ x1 = .slice a1 n d1 ∧ x2 = .slice a2 n d2 ∧ h.length = n ∧ 0 < n ∧ n ≤ m ∧ IntsR wr a1 (zl (numsOf h)) ∧ StrsR wr a2 (textsOf h) ∧ Up (numsOf h) ∧ (∀ q ∈ h, q.1 ≤ 1000000 ∧ q.2.length ≤ 1000) ∧ V = tx (many N room.data.toList (H - z) z h p.data.toList) ∧ Below w2.heap.size w2 wr) (fun _ _ _ _ _ _ _ _ _ _ i _ => H - (intOf i).toNat)
  case atStart => exact ⟨0, m, a3, a4, c3, c4, hd, pr, by omega, rfl, rfl, rfl, rfl, HDL.out, h0, Nat.le_refl _, HI3.out, HI4.out, HDU.out, HDB.out, HV.out, HW4.out⟩
  case round =>
    clear HI3 HI4 HW4
    obtain ⟨z, n, a1, a2, d1, d2, hh, p0, hz, rfl, rfl, rfl, rfl, hhl, hn0, hnm, hi1, hi2, hup, hhb, hres, hbel⟩ := hrel
    obtain ⟨wo, rfl⟩ : ∃ wo, wo = wr := ⟨wr, rfl⟩
    have HI1 := Lib.hid hi1
    have HI2 := Lib.hid hi2
    have HUP := Lib.hid hup
    have HHB := Lib.hid hhb
    have HHL := Lib.hid hhl
    have HRES := Lib.hid hres
    have HW := Lib.hid hbel
    clear hi1 hi2 hup hhb hres hbel hhl
    by_cases hlt : z < H
    · obtain ⟨b1, o1, rfl, -⟩ := HI1.out (by rw [zl_length, numsOf_length]; have := HHL.out; omega)
      obtain ⟨b2, o2, rfl, -⟩ := HI2.out (by rw [textsOf_length]; have := HHL.out; omega)
      go_wp2_with fail
      go_loopw [4, 14, 15, 16, 17, 18, 19] (fun pv v1 v2 i _ _ _ wr => ∃ (k j : Nat) (acc : Hand) (p : ByteArray), k ≤ n ∧ i = .int .i64 k ∧ pv = .string p ∧ acc.length = j ∧ j ≤ k ∧ climbed N room.data.toList z hh p0.data.toList = (climbed N room.data.toList z (hh.drop k) p.data.toList).map (fun r => (acc ++ r.1, r.2)) ∧ wr.ownsRow wo.heap.size 3 1 v1 j (Ints.intsV (numsOf acc)) ∧ wr.ownsRow wo.heap.size 9 1 v2 j (Strs.strsV (textsOf acc)) ∧ Below wo.heap.size wo wr) (fun _ _ _ i _ _ _ _ => n - (intOf i).toNat)
      case atStart => exact ⟨0, 0, [], p0, by omega, rfl, rfl, rfl, Nat.le_refl _, by
        rw [List.drop_zero]
        cases climbed N room.data.toList z hh p0.data.toList <;> rfl, ⟨rfl, .inl ⟨rfl, rfl⟩⟩, ⟨rfl, .inl ⟨rfl, rfl⟩⟩, Below.refl _ _⟩
      case round =>
        obtain ⟨k, j, acc, p, hk, rfl, rfl, hj, hjk, hcl, ho1, ho2, hbel⟩ := hrel
        have HO1 := Lib.hid ho1
        have HO2 := Lib.hid ho2
        have HCL := Lib.hid hcl
        have HWI := Lib.hid hbel
        have HJ := Lib.hid hj
        clear ho1 ho2 hcl hbel hj
        by_cases hltk : k < n
        · have hkl : k < hh.length := by rw [HHL.out]; exact hltk
          obtain ⟨k1, x, hpt⟩ : ∃ k1 x, hh[k] = (k1, x) := ⟨_, _, rfl⟩
          have hpo : hh[k]? = some (k1, x) := by rw [List.getElem?_eq_getElem hkl, hpt]
          have hdrop : hh.drop k = (k1, x) :: hh.drop (k + 1) := by rw [List.drop_eq_getElem_cons hkl, hpt]
          have HI1w := Lib.hid (HI1.out.below HWI.out)
          have HI2w := Lib.hid (HI2.out.below HWI.out)
          obtain ⟨X, hX⟩ : ∃ X, X = tx x := ⟨_, rfl⟩
          have HCN := Lib.hid (fun (i : Nat) (q : Nat × List UInt8) (hq : hh[i]? = some q) => show wr.cell? ⟨b1, o1 + i, none⟩ = some (.int .i64 ((q.1 : Nat) : Int)) ∧ wr.cell? ⟨b2, o2 + i, none⟩ = some (.string (tx q.2)) from by
            have hil : i < hh.length := (List.getElem?_eq_some_iff.1 hq).1
            obtain ⟨b', o', e1, -, h1⟩ := HI1w.out (by rw [zl_length, numsOf_length]; omega)
            obtain ⟨b'', o'', e2, -, h2⟩ := HI2w.out (by rw [textsOf_length]; omega)
            cases e1
            cases e2
            exact ⟨h1 i _ (zl_at (numsOf_at hq)), h2 i _ (textsOf_at hq)⟩)
          obtain ⟨e0, e1⟩ := HCN.out k (k1, x) hpo
          rw [← hX] at e1
          simp only at e0 e1
          obtain ⟨c0, c1⟩ := HC.out _ (HB1.out.trans ((HW.out.trans (HWI.out.mono HW.out.size)).mono HB1.out.size))
          have hbx := HHB.out (k1, x) (List.mem_of_getElem? hpo)
          have hk1 : k1 ≤ 1000000 := hbx.1
          have hx1 : x.length ≤ 1000 := hbx.2
          obtain ⟨s1, hs1⟩ : ∃ s1, s1 = sib k1 := ⟨_, rfl⟩
          have hxo : bits .xor .i64 (k1 : Int) 1 = (s1 : Int) := by rw [hs1]; exact xor_one k1 (by omega)
          have hand : bits .and .i64 (k1 : Int) 1 = ((k1 % 2 : Nat) : Int) := and_one k1 (by omega)
          obtain ⟨kh, hkh⟩ : ∃ kh, kh = k1 / 2 := ⟨_, rfl⟩
          have hsh : (k1 : Int) / 2 = (kh : Int) := by rw [hkh]; rfl
          have hXs : X.size ≤ 1000 := by
            have e : X.size = x.length := by rw [hX]; rfl
            omega
          have HS1 := Lib.hid hs1
          have HDR := Lib.hid hdrop
          have HKH := Lib.hid hkh
          have HX := Lib.hid hX
          have HPO := Lib.hid hpo
          have hj6 : j ≤ 1000000 := by omega
          clear hs1 hdrop hkh hX hpo hpt hbx
          by_cases hk2 : k + 1 < n
          · have g1 : decide ((k : Int) + 1 < (n : Int)) = true := by simp; omega
            have g2 : decide (k + 1 < n) = true := by simp [hk2]
            have hkl2 : k + 1 < hh.length := by rw [HHL.out]; exact hk2
            obtain ⟨k2, y, hpt2⟩ : ∃ k2 y, hh[k + 1] = (k2, y) := ⟨_, _, rfl⟩
            have hpo2 : hh[k + 1]? = some (k2, y) := by rw [List.getElem?_eq_getElem hkl2, hpt2]
            have hdrop2 : hh.drop (k + 1) = (k2, y) :: hh.drop (k + 2) := by rw [List.drop_eq_getElem_cons hkl2, hpt2]
            obtain ⟨Y, hY⟩ : ∃ Y, Y = tx y := ⟨_, rfl⟩
            obtain ⟨f0, f1⟩ := HCN.out (k + 1) (k2, y) hpo2
            rw [← hY] at f1
            simp only at f0 f1
            have hbd : k1 < k2 := by
              have h1 := HUP.out
              have e1 := numsOf_at HPO.out
              have e2 := numsOf_at hpo2
              have hl1 : k < (numsOf hh).length := by rw [numsOf_length]; exact hkl
              have hl2 : k + 1 < (numsOf hh).length := by rw [numsOf_length]; exact hkl2
              rw [List.getElem?_eq_getElem hl1] at e1
              rw [List.getElem?_eq_getElem hl2] at e2
              have := List.pairwise_iff_getElem.1 h1 k (k + 1) hl1 hl2 (by omega)
              rw [Option.some.inj e1, Option.some.inj e2] at this
              exact this
            have hby := HHB.out (k2, y) (List.mem_of_getElem? hpo2)
            have hYs : Y.size ≤ 1000 := by
              have e : Y.size = y.length := by rw [hY]; rfl
              rw [e]
              exact hby.2
            have HDR2 := Lib.hid hdrop2
            have HY := Lib.hid hY
            obtain ⟨ki, hki⟩ : ∃ ki, ki = k + 1 := ⟨_, rfl⟩
            have hki2 : (k : Int) + 1 = (ki : Int) := by omega
            have hwki : IntKind.i64.wrap ((k : Int) + 1) = (ki : Int) := by rw [IntKind.wrap_i64]; omega
            have hkin : (ki : Int) < (n : Int) := by omega
            rw [← hki] at f0 f1
            have HKI := Lib.hid hki
            clear hdrop2 hY hpo2 hpt2 hby hki hkl2
            by_cases heq : k2 = s1
            · have g3 : ((k2 : Int) == (s1 : Int)) = true := by rw [heq]; simp
              have hev : ¬ k1 % 2 = 1 := fun ho => by
                have h1 := HS1.out
                rw [sib, if_pos ho] at h1
                omega
              obtain ⟨S, hS⟩ : ∃ S, S = X ++ Y := ⟨_, rfl⟩
              have hcat : X.size + Y.size ≤ 2000 := by omega
              obtain ⟨U, hU⟩ : ∃ U, U = tx (asOneT N room.data.toList z k1 x y) := ⟨_, rfl⟩
              have RP1 := Lib.hid (RP.out z kh S U (by omega) (by have := HKH.out; omega) (by rw [hS, ByteArray.size_append]; omega) (by
                rw [hU, asOneT, if_neg hev, hS, HX.out, HY.out, HKH.out]
                simp))
              obtain ⟨kk, hkk⟩ : ∃ kk, kk = k + 2 := ⟨_, rfl⟩
              obtain ⟨pp, hpp⟩ : ∃ pp, pp = p := ⟨_, rfl⟩
              have HSTEP := Lib.hid (show climbed N room.data.toList z (hh.drop k) p.data.toList = (climbed N room.data.toList z (hh.drop kk) pp.data.toList).map (fun r => ((kh, U.data.toList) :: r.1, r.2)) from by
                rw [HDR.out, HDR2.out, climbed, if_pos (by rw [heq, HS1.out]), hkk, hpp, hU, HKH.out])
              have HKK := Lib.hid (show kk ≤ n ∧ j + 1 ≤ kk ∧ k < kk ∧ kk = ki + 1 from by have := HKI.out; omega)
              have HSS := Lib.hid hS
              have HU := Lib.hid hU
              clear heq hkk hS hU hev
              go_upto_region 24 with (fail)
              rw [← hpp]
              clear hpp g1 g2 g3 f0 f1 e0 e1 hxo hand
              go_wp2_with (at_builtin; refine Ints.append_ints rfl _ _ rfl wo.heap.size j _ (numsOf acc) rfl (HO1.out.alloc _) wr.heap.size 1 1 [kh] rfl rfl (ints_one _ _ _) (by omega) (Nat.le_trans HWI.out.size (by simp)) ?_)
              intro v6 w6 hown6 hgrow6
              have HW6 := Lib.hid ((HWI.out.alloc HWI.out.size (.cells #[.int .i64 (kh : Int)] 3)).grown hgrow6 (Nat.le_trans HWI.out.size (by simp)) (fun j hj => (HO1.out.lt j hj).1))
              have HO26 := Lib.hid ((HO2.out.alloc (.cells #[.int .i64 (kh : Int)] 3)).kept hgrow6 (own_apart HO1.out HO2.out).1)
              have HO16 := Lib.hid hown6
              clear hown6 hgrow6 c0 c1
              obtain ⟨c0, c1⟩ := HC.out _ (HB1.out.trans ((HW.out.trans (HW6.out.mono HW.out.size)).mono HB1.out.size))
              go_upto_region 25 with (fail)
              have hSr := HSS.out.symm
              go_wp2_with fail
              refine (RP1.out _).mono ?_
              rintro e w7 ⟨rfl, hb7⟩
              have HO17 := Lib.hid (Strs.own_below HO16.out hb7)
              have HO27 := Lib.hid (Strs.own_below HO26.out hb7)
              have HW7 := Lib.hid (HW6.out.trans (hb7.mono HW6.out.size))
              clear hb7 hcat hSr c0 c1 hsh
              go_wp2_with (at_builtin; refine Strs.append_strs rfl _ _ rfl wo.heap.size j _ (textsOf acc) rfl (HO27.out.alloc _) w7.heap.size 1 1 [U] rfl rfl (Strs.new_one _ _ _) (by omega) (Nat.le_trans HW7.out.size (by simp)) ?_)
              intro v8 w8 hown8 hgrow8
              have HW8 := Lib.hid ((HW7.out.alloc HW7.out.size (.cells #[.string U] 9)).grown hgrow8 (Nat.le_trans HW7.out.size (by simp)) (fun j hj => (HO27.out.lt j hj).1))
              have HO18 := Lib.hid ((HO17.out.alloc (.cells #[.string U] 9)).kept hgrow8 (own_apart HO17.out HO27.out).2)
              have HO28 := Lib.hid hown8
              clear hown8 hgrow8
              have HCL8 := Lib.hid (show climbed N room.data.toList z hh p0.data.toList = (climbed N room.data.toList z (hh.drop kk) pp.data.toList).map (fun r => ((acc ++ [(kh, U.data.toList)]) ++ r.1, r.2)) from by
                rw [HCL.out, HSTEP.out, Option.map_map]
                congr 1
                funext r
                simp [Function.comp])
              have HJ8 := Lib.hid (show (acc ++ [(kh, U.data.toList)]).length = j + 1 from by rw [List.length_append, HJ.out]; rfl)
              have HN8 := Lib.hid (show numsOf acc ++ [kh] = numsOf (acc ++ [(kh, U.data.toList)]) from (numsOf_next acc kh U.data.toList).symm)
              have HT8 := Lib.hid (show textsOf acc ++ [U] = textsOf (acc ++ [(kh, U.data.toList)]) from (textsOf_next acc kh U.data.toList).symm)
              have ho18 := HO18.out
              have ho28 := HO28.out
              rw [HN8.out] at ho18
              rw [HT8.out] at ho28
              have HO19 := Lib.hid ho18
              have HO29 := Lib.hid ho28
              clear ho18 ho28
              go_wp2
              go_roundw
              case rel => exact ⟨kk, j + 1, acc ++ [(kh, U.data.toList)], pp, HKK.out.1, (by rw [HKK.out.2.2.2]; go_num), rfl, HJ8.out, HKK.out.2.1, HCL8.out, HO19.out, HO29.out, HW8.out⟩
              case measure => have := HKK.out; simp [intOf]; omega
            · have g3 : ((k2 : Int) == (s1 : Int)) = false := by simp; omega
              have HST := Lib.hid (show climbed N room.data.toList z (hh.drop k) p.data.toList = if p.data.toList.length < N then none else (climbed N room.data.toList z (hh.drop (k + 1)) (p.data.toList.drop N)).map (fun r => ((k1 / 2, asOneT N room.data.toList z k1 x (p.data.toList.take N)) :: r.1, r.2)) from by
                rw [HDR.out, HDR2.out, climbed, if_neg (by rw [← HS1.out]; exact heq)])
              have hk3 : k < n := hltk
              clear heq
              by_cases hle : N ≤ p.size
              · have g4 : decide ((p.size : Int) < (N : Int)) = false := by simp; omega
                have g5 : decide (p.size < N) = false := by simp; omega
                obtain ⟨YB, hYB⟩ : ∃ YB, p.extract 0 N = YB := ⟨_, rfl⟩
                obtain ⟨pp, hpp⟩ : ∃ pp, p.extract N p.size = pp := ⟨_, rfl⟩
                obtain ⟨yb, hyb0⟩ : ∃ yb, yb = p.data.toList.take N := ⟨_, rfl⟩
                have HYB := Lib.hid (show YB = tx yb from by rw [← hYB, hyb0]; exact cut_head p N)
                have hyb : YB.size ≤ 32 := by
                  have e1 : YB.size = yb.length := by rw [HYB.out]; rfl
                  rw [e1, hyb0, List.length_take]
                  omega
                obtain ⟨U, hU⟩ : ∃ U, U = tx (asOneT N room.data.toList z k1 x yb) := ⟨_, rfl⟩
                obtain ⟨kk, hkk⟩ : ∃ kk, kk = k + 1 := ⟨_, rfl⟩
                have HSTEP := Lib.hid (show climbed N room.data.toList z (hh.drop k) p.data.toList = (climbed N room.data.toList z (hh.drop kk) pp.data.toList).map (fun r => ((kh, U.data.toList) :: r.1, r.2)) from by
                  have hpl : p.data.toList.length = p.size := rfl
                  rw [HST.out, if_neg (by omega), hkk, ← hpp, cut_drop p N hle, hU, hyb0, HKH.out])
                have HKK := Lib.hid (show kk ≤ n ∧ j + 1 ≤ kk ∧ k < kk ∧ kk = k + 1 from by omega)
                have hN1 : (N : Int) ≤ p.size := by omega
                have hN3 : (N : Int).toNat = N := by omega
                have hN4 : (0 : Int) ≤ (N : Int) := by omega
                have hN5 : (N : Int) ≤ 32 := by omega
                have HU := Lib.hid hU
                clear hyb0 hU hkk hle
                by_cases ho : k1 % 2 = 1
                · have g6 : (((k1 % 2 : Nat) : Int) == 1) = true := by rw [ho]; rfl
                  obtain ⟨S, hS⟩ : ∃ S, S = YB ++ X := ⟨_, rfl⟩
                  have hcat : YB.size + X.size ≤ 2000 := by omega
                  have RP1 := Lib.hid (RP.out z kh S U (by omega) (by have := HKH.out; omega) (by rw [hS, ByteArray.size_append]; omega) (by
                    rw [HU.out, asOneT, if_pos ho, hS, HX.out, HYB.out, HKH.out]
                    simp))
                  have HSS := Lib.hid hS
                  clear ho hS
                  go_upto_region 24 with (fail)
                  clear hYB hpp hN1 hN3 hN4 hN5 g1 g2 g3 g4 g5 g6 f0 f1 e0 e1 hxo hand
                  go_wp2_with (at_builtin; refine Ints.append_ints rfl _ _ rfl wo.heap.size j _ (numsOf acc) rfl (HO1.out.alloc _) wr.heap.size 1 1 [kh] rfl rfl (ints_one _ _ _) (by omega) (Nat.le_trans HWI.out.size (by simp)) ?_)
                  intro v6 w6 hown6 hgrow6
                  have HW6 := Lib.hid ((HWI.out.alloc HWI.out.size (.cells #[.int .i64 (kh : Int)] 3)).grown hgrow6 (Nat.le_trans HWI.out.size (by simp)) (fun j hj => (HO1.out.lt j hj).1))
                  have HO26 := Lib.hid ((HO2.out.alloc (.cells #[.int .i64 (kh : Int)] 3)).kept hgrow6 (own_apart HO1.out HO2.out).1)
                  have HO16 := Lib.hid hown6
                  clear hown6 hgrow6 c0 c1
                  obtain ⟨c0, c1⟩ := HC.out _ (HB1.out.trans ((HW.out.trans (HW6.out.mono HW.out.size)).mono HB1.out.size))
                  go_upto_region 25 with (fail)
                  have hSr := HSS.out.symm
                  go_wp2_with fail
                  refine (RP1.out _).mono ?_
                  rintro e w7 ⟨rfl, hb7⟩
                  have HO17 := Lib.hid (Strs.own_below HO16.out hb7)
                  have HO27 := Lib.hid (Strs.own_below HO26.out hb7)
                  have HW7 := Lib.hid (HW6.out.trans (hb7.mono HW6.out.size))
                  clear hb7 hcat hSr c0 c1 hsh
                  go_wp2_with (at_builtin; refine Strs.append_strs rfl _ _ rfl wo.heap.size j _ (textsOf acc) rfl (HO27.out.alloc _) w7.heap.size 1 1 [U] rfl rfl (Strs.new_one _ _ _) (by omega) (Nat.le_trans HW7.out.size (by simp)) ?_)
                  intro v8 w8 hown8 hgrow8
                  have HW8 := Lib.hid ((HW7.out.alloc HW7.out.size (.cells #[.string U] 9)).grown hgrow8 (Nat.le_trans HW7.out.size (by simp)) (fun j hj => (HO27.out.lt j hj).1))
                  have HO18 := Lib.hid ((HO17.out.alloc (.cells #[.string U] 9)).kept hgrow8 (own_apart HO17.out HO27.out).2)
                  have HO28 := Lib.hid hown8
                  clear hown8 hgrow8
                  have HCL8 := Lib.hid (show climbed N room.data.toList z hh p0.data.toList = (climbed N room.data.toList z (hh.drop kk) pp.data.toList).map (fun r => ((acc ++ [(kh, U.data.toList)]) ++ r.1, r.2)) from by
                    rw [HCL.out, HSTEP.out, Option.map_map]
                    congr 1
                    funext r
                    simp [Function.comp])
                  have HJ8 := Lib.hid (show (acc ++ [(kh, U.data.toList)]).length = j + 1 from by rw [List.length_append, HJ.out]; rfl)
                  have HN8 := Lib.hid (show numsOf acc ++ [kh] = numsOf (acc ++ [(kh, U.data.toList)]) from (numsOf_next acc kh U.data.toList).symm)
                  have HT8 := Lib.hid (show textsOf acc ++ [U] = textsOf (acc ++ [(kh, U.data.toList)]) from (textsOf_next acc kh U.data.toList).symm)
                  have ho18 := HO18.out
                  have ho28 := HO28.out
                  rw [HN8.out] at ho18
                  rw [HT8.out] at ho28
                  have HO19 := Lib.hid ho18
                  have HO29 := Lib.hid ho28
                  clear ho18 ho28
                  go_wp2
                  go_roundw
                  case rel => exact ⟨kk, j + 1, acc ++ [(kh, U.data.toList)], pp, HKK.out.1, (by rw [HKK.out.2.2.2]; go_num), rfl, HJ8.out, HKK.out.2.1, HCL8.out, HO19.out, HO29.out, HW8.out⟩
                  case measure => have := HKK.out; simp [intOf]; omega
                · have g6 : (((k1 % 2 : Nat) : Int) == 1) = false := by rw [show k1 % 2 = 0 by omega]; rfl
                  obtain ⟨S, hS⟩ : ∃ S, S = X ++ YB := ⟨_, rfl⟩
                  have hcat : X.size + YB.size ≤ 2000 := by omega
                  have RP1 := Lib.hid (RP.out z kh S U (by omega) (by have := HKH.out; omega) (by rw [hS, ByteArray.size_append]; omega) (by
                    rw [HU.out, asOneT, if_neg ho, hS, HX.out, HYB.out, HKH.out]
                    simp))
                  have HSS := Lib.hid hS
                  clear ho hS
                  go_upto_region 24 with (fail)
                  clear hYB hpp hN1 hN3 hN4 hN5 g1 g2 g3 g4 g5 g6 f0 f1 e0 e1 hxo hand
                  go_wp2_with (at_builtin; refine Ints.append_ints rfl _ _ rfl wo.heap.size j _ (numsOf acc) rfl (HO1.out.alloc _) wr.heap.size 1 1 [kh] rfl rfl (ints_one _ _ _) (by omega) (Nat.le_trans HWI.out.size (by simp)) ?_)
                  intro v6 w6 hown6 hgrow6
                  have HW6 := Lib.hid ((HWI.out.alloc HWI.out.size (.cells #[.int .i64 (kh : Int)] 3)).grown hgrow6 (Nat.le_trans HWI.out.size (by simp)) (fun j hj => (HO1.out.lt j hj).1))
                  have HO26 := Lib.hid ((HO2.out.alloc (.cells #[.int .i64 (kh : Int)] 3)).kept hgrow6 (own_apart HO1.out HO2.out).1)
                  have HO16 := Lib.hid hown6
                  clear hown6 hgrow6 c0 c1
                  obtain ⟨c0, c1⟩ := HC.out _ (HB1.out.trans ((HW.out.trans (HW6.out.mono HW.out.size)).mono HB1.out.size))
                  go_upto_region 25 with (fail)
                  have hSr := HSS.out.symm
                  go_wp2_with fail
                  refine (RP1.out _).mono ?_
                  rintro e w7 ⟨rfl, hb7⟩
                  have HO17 := Lib.hid (Strs.own_below HO16.out hb7)
                  have HO27 := Lib.hid (Strs.own_below HO26.out hb7)
                  have HW7 := Lib.hid (HW6.out.trans (hb7.mono HW6.out.size))
                  clear hb7 hcat hSr c0 c1 hsh
                  go_wp2_with (at_builtin; refine Strs.append_strs rfl _ _ rfl wo.heap.size j _ (textsOf acc) rfl (HO27.out.alloc _) w7.heap.size 1 1 [U] rfl rfl (Strs.new_one _ _ _) (by omega) (Nat.le_trans HW7.out.size (by simp)) ?_)
                  intro v8 w8 hown8 hgrow8
                  have HW8 := Lib.hid ((HW7.out.alloc HW7.out.size (.cells #[.string U] 9)).grown hgrow8 (Nat.le_trans HW7.out.size (by simp)) (fun j hj => (HO27.out.lt j hj).1))
                  have HO18 := Lib.hid ((HO17.out.alloc (.cells #[.string U] 9)).kept hgrow8 (own_apart HO17.out HO27.out).2)
                  have HO28 := Lib.hid hown8
                  clear hown8 hgrow8
                  have HCL8 := Lib.hid (show climbed N room.data.toList z hh p0.data.toList = (climbed N room.data.toList z (hh.drop kk) pp.data.toList).map (fun r => ((acc ++ [(kh, U.data.toList)]) ++ r.1, r.2)) from by
                    rw [HCL.out, HSTEP.out, Option.map_map]
                    congr 1
                    funext r
                    simp [Function.comp])
                  have HJ8 := Lib.hid (show (acc ++ [(kh, U.data.toList)]).length = j + 1 from by rw [List.length_append, HJ.out]; rfl)
                  have HN8 := Lib.hid (show numsOf acc ++ [kh] = numsOf (acc ++ [(kh, U.data.toList)]) from (numsOf_next acc kh U.data.toList).symm)
                  have HT8 := Lib.hid (show textsOf acc ++ [U] = textsOf (acc ++ [(kh, U.data.toList)]) from (textsOf_next acc kh U.data.toList).symm)
                  have ho18 := HO18.out
                  have ho28 := HO28.out
                  rw [HN8.out] at ho18
                  rw [HT8.out] at ho28
                  have HO19 := Lib.hid ho18
                  have HO29 := Lib.hid ho28
                  clear ho18 ho28
                  go_wp2
                  go_roundw
                  case rel => exact ⟨kk, j + 1, acc ++ [(kh, U.data.toList)], pp, HKK.out.1, (by rw [HKK.out.2.2.2]; go_num), rfl, HJ8.out, HKK.out.2.1, HCL8.out, HO19.out, HO29.out, HW8.out⟩
                  case measure => have := HKK.out; simp [intOf]; omega
              · have g4 : decide ((p.size : Int) < (N : Int)) = true := by simp; omega
                have g5 : decide (p.size < N) = true := by simp; omega
                have hVV : V = ⟨#[]⟩ := by
                  have hpl : p.data.toList.length = p.size := rfl
                  have hnone : climbed N room.data.toList z hh p0.data.toList = none := by
                    rw [HCL.out, HST.out, if_pos (by omega)]
                    rfl
                  rw [HRES.out, show H - z = (H - z - 1) + 1 by omega, many, hnone]
                subst hVV
                clear hle
                go_wp2
                go_ret
                exact ⟨rfl, HB0.out.trans ((HB1.out.trans ((HW.out.trans (HWI.out.mono HW.out.size)).mono HB1.out.size)).mono HB0.out.size)⟩
          · have g1 : decide ((k : Int) + 1 < (n : Int)) = false := by simp; omega
            have g2 : decide (k + 1 < n) = false := by simp; omega
            have g3 : True := trivial
            have f0 : True := trivial
            have f1 : True := trivial
            have HST := Lib.hid (show climbed N room.data.toList z (hh.drop k) p.data.toList = if p.data.toList.length < N then none else (climbed N room.data.toList z (hh.drop (k + 1)) (p.data.toList.drop N)).map (fun r => ((k1 / 2, asOneT N room.data.toList z k1 x (p.data.toList.take N)) :: r.1, r.2)) from by
              have e : hh.drop (k + 1) = [] := List.drop_eq_nil_of_le (by have := HHL.out; omega)
              rw [HDR.out, e, climbed]
              rfl)
            by_cases hle : N ≤ p.size
            · have g4 : decide ((p.size : Int) < (N : Int)) = false := by simp; omega
              have g5 : decide (p.size < N) = false := by simp; omega
              obtain ⟨YB, hYB⟩ : ∃ YB, p.extract 0 N = YB := ⟨_, rfl⟩
              obtain ⟨pp, hpp⟩ : ∃ pp, p.extract N p.size = pp := ⟨_, rfl⟩
              obtain ⟨yb, hyb0⟩ : ∃ yb, yb = p.data.toList.take N := ⟨_, rfl⟩
              have HYB := Lib.hid (show YB = tx yb from by rw [← hYB, hyb0]; exact cut_head p N)
              have hyb : YB.size ≤ 32 := by
                have e1 : YB.size = yb.length := by rw [HYB.out]; rfl
                rw [e1, hyb0, List.length_take]
                omega
              obtain ⟨U, hU⟩ : ∃ U, U = tx (asOneT N room.data.toList z k1 x yb) := ⟨_, rfl⟩
              obtain ⟨kk, hkk⟩ : ∃ kk, kk = k + 1 := ⟨_, rfl⟩
              have HSTEP := Lib.hid (show climbed N room.data.toList z (hh.drop k) p.data.toList = (climbed N room.data.toList z (hh.drop kk) pp.data.toList).map (fun r => ((kh, U.data.toList) :: r.1, r.2)) from by
                have hpl : p.data.toList.length = p.size := rfl
                rw [HST.out, if_neg (by omega), hkk, ← hpp, cut_drop p N hle, hU, hyb0, HKH.out])
              have HKK := Lib.hid (show kk ≤ n ∧ j + 1 ≤ kk ∧ k < kk ∧ kk = k + 1 from by omega)
              have hN1 : (N : Int) ≤ p.size := by omega
              have hN3 : (N : Int).toNat = N := by omega
              have hN4 : (0 : Int) ≤ (N : Int) := by omega
              have hN5 : (N : Int) ≤ 32 := by omega
              have HU := Lib.hid hU
              clear hyb0 hU hkk hle
              by_cases ho : k1 % 2 = 1
              · have g6 : (((k1 % 2 : Nat) : Int) == 1) = true := by rw [ho]; rfl
                obtain ⟨S, hS⟩ : ∃ S, S = YB ++ X := ⟨_, rfl⟩
                have hcat : YB.size + X.size ≤ 2000 := by omega
                have RP1 := Lib.hid (RP.out z kh S U (by omega) (by have := HKH.out; omega) (by rw [hS, ByteArray.size_append]; omega) (by
                  rw [HU.out, asOneT, if_pos ho, hS, HX.out, HYB.out, HKH.out]
                  simp))
                have HSS := Lib.hid hS
                clear ho hS
                go_upto_region 24 with (fail)
                clear hYB hpp hN1 hN3 hN4 hN5 g1 g2 g3 g4 g5 g6 f0 f1 e0 e1 hxo hand
                go_wp2_with (at_builtin; refine Ints.append_ints rfl _ _ rfl wo.heap.size j _ (numsOf acc) rfl (HO1.out.alloc _) wr.heap.size 1 1 [kh] rfl rfl (ints_one _ _ _) (by omega) (Nat.le_trans HWI.out.size (by simp)) ?_)
                intro v6 w6 hown6 hgrow6
                have HW6 := Lib.hid ((HWI.out.alloc HWI.out.size (.cells #[.int .i64 (kh : Int)] 3)).grown hgrow6 (Nat.le_trans HWI.out.size (by simp)) (fun j hj => (HO1.out.lt j hj).1))
                have HO26 := Lib.hid ((HO2.out.alloc (.cells #[.int .i64 (kh : Int)] 3)).kept hgrow6 (own_apart HO1.out HO2.out).1)
                have HO16 := Lib.hid hown6
                clear hown6 hgrow6 c0 c1
                obtain ⟨c0, c1⟩ := HC.out _ (HB1.out.trans ((HW.out.trans (HW6.out.mono HW.out.size)).mono HB1.out.size))
                go_upto_region 25 with (fail)
                have hSr := HSS.out.symm
                go_wp2_with fail
                refine (RP1.out _).mono ?_
                rintro e w7 ⟨rfl, hb7⟩
                have HO17 := Lib.hid (Strs.own_below HO16.out hb7)
                have HO27 := Lib.hid (Strs.own_below HO26.out hb7)
                have HW7 := Lib.hid (HW6.out.trans (hb7.mono HW6.out.size))
                clear hb7 hcat hSr c0 c1 hsh
                go_wp2_with (at_builtin; refine Strs.append_strs rfl _ _ rfl wo.heap.size j _ (textsOf acc) rfl (HO27.out.alloc _) w7.heap.size 1 1 [U] rfl rfl (Strs.new_one _ _ _) (by omega) (Nat.le_trans HW7.out.size (by simp)) ?_)
                intro v8 w8 hown8 hgrow8
                have HW8 := Lib.hid ((HW7.out.alloc HW7.out.size (.cells #[.string U] 9)).grown hgrow8 (Nat.le_trans HW7.out.size (by simp)) (fun j hj => (HO27.out.lt j hj).1))
                have HO18 := Lib.hid ((HO17.out.alloc (.cells #[.string U] 9)).kept hgrow8 (own_apart HO17.out HO27.out).2)
                have HO28 := Lib.hid hown8
                clear hown8 hgrow8
                have HCL8 := Lib.hid (show climbed N room.data.toList z hh p0.data.toList = (climbed N room.data.toList z (hh.drop kk) pp.data.toList).map (fun r => ((acc ++ [(kh, U.data.toList)]) ++ r.1, r.2)) from by
                  rw [HCL.out, HSTEP.out, Option.map_map]
                  congr 1
                  funext r
                  simp [Function.comp])
                have HJ8 := Lib.hid (show (acc ++ [(kh, U.data.toList)]).length = j + 1 from by rw [List.length_append, HJ.out]; rfl)
                have HN8 := Lib.hid (show numsOf acc ++ [kh] = numsOf (acc ++ [(kh, U.data.toList)]) from (numsOf_next acc kh U.data.toList).symm)
                have HT8 := Lib.hid (show textsOf acc ++ [U] = textsOf (acc ++ [(kh, U.data.toList)]) from (textsOf_next acc kh U.data.toList).symm)
                have ho18 := HO18.out
                have ho28 := HO28.out
                rw [HN8.out] at ho18
                rw [HT8.out] at ho28
                have HO19 := Lib.hid ho18
                have HO29 := Lib.hid ho28
                clear ho18 ho28
                go_wp2
                go_roundw
                case rel => exact ⟨kk, j + 1, acc ++ [(kh, U.data.toList)], pp, HKK.out.1, (by rw [HKK.out.2.2.2]; go_num), rfl, HJ8.out, HKK.out.2.1, HCL8.out, HO19.out, HO29.out, HW8.out⟩
                case measure => have := HKK.out; simp [intOf]; omega
              · have g6 : (((k1 % 2 : Nat) : Int) == 1) = false := by rw [show k1 % 2 = 0 by omega]; rfl
                obtain ⟨S, hS⟩ : ∃ S, S = X ++ YB := ⟨_, rfl⟩
                have hcat : X.size + YB.size ≤ 2000 := by omega
                have RP1 := Lib.hid (RP.out z kh S U (by omega) (by have := HKH.out; omega) (by rw [hS, ByteArray.size_append]; omega) (by
                  rw [HU.out, asOneT, if_neg ho, hS, HX.out, HYB.out, HKH.out]
                  simp))
                have HSS := Lib.hid hS
                clear ho hS
                go_upto_region 24 with (fail)
                clear hYB hpp hN1 hN3 hN4 hN5 g1 g2 g3 g4 g5 g6 f0 f1 e0 e1 hxo hand
                go_wp2_with (at_builtin; refine Ints.append_ints rfl _ _ rfl wo.heap.size j _ (numsOf acc) rfl (HO1.out.alloc _) wr.heap.size 1 1 [kh] rfl rfl (ints_one _ _ _) (by omega) (Nat.le_trans HWI.out.size (by simp)) ?_)
                intro v6 w6 hown6 hgrow6
                have HW6 := Lib.hid ((HWI.out.alloc HWI.out.size (.cells #[.int .i64 (kh : Int)] 3)).grown hgrow6 (Nat.le_trans HWI.out.size (by simp)) (fun j hj => (HO1.out.lt j hj).1))
                have HO26 := Lib.hid ((HO2.out.alloc (.cells #[.int .i64 (kh : Int)] 3)).kept hgrow6 (own_apart HO1.out HO2.out).1)
                have HO16 := Lib.hid hown6
                clear hown6 hgrow6 c0 c1
                obtain ⟨c0, c1⟩ := HC.out _ (HB1.out.trans ((HW.out.trans (HW6.out.mono HW.out.size)).mono HB1.out.size))
                go_upto_region 25 with (fail)
                have hSr := HSS.out.symm
                go_wp2_with fail
                refine (RP1.out _).mono ?_
                rintro e w7 ⟨rfl, hb7⟩
                have HO17 := Lib.hid (Strs.own_below HO16.out hb7)
                have HO27 := Lib.hid (Strs.own_below HO26.out hb7)
                have HW7 := Lib.hid (HW6.out.trans (hb7.mono HW6.out.size))
                clear hb7 hcat hSr c0 c1 hsh
                go_wp2_with (at_builtin; refine Strs.append_strs rfl _ _ rfl wo.heap.size j _ (textsOf acc) rfl (HO27.out.alloc _) w7.heap.size 1 1 [U] rfl rfl (Strs.new_one _ _ _) (by omega) (Nat.le_trans HW7.out.size (by simp)) ?_)
                intro v8 w8 hown8 hgrow8
                have HW8 := Lib.hid ((HW7.out.alloc HW7.out.size (.cells #[.string U] 9)).grown hgrow8 (Nat.le_trans HW7.out.size (by simp)) (fun j hj => (HO27.out.lt j hj).1))
                have HO18 := Lib.hid ((HO17.out.alloc (.cells #[.string U] 9)).kept hgrow8 (own_apart HO17.out HO27.out).2)
                have HO28 := Lib.hid hown8
                clear hown8 hgrow8
                have HCL8 := Lib.hid (show climbed N room.data.toList z hh p0.data.toList = (climbed N room.data.toList z (hh.drop kk) pp.data.toList).map (fun r => ((acc ++ [(kh, U.data.toList)]) ++ r.1, r.2)) from by
                  rw [HCL.out, HSTEP.out, Option.map_map]
                  congr 1
                  funext r
                  simp [Function.comp])
                have HJ8 := Lib.hid (show (acc ++ [(kh, U.data.toList)]).length = j + 1 from by rw [List.length_append, HJ.out]; rfl)
                have HN8 := Lib.hid (show numsOf acc ++ [kh] = numsOf (acc ++ [(kh, U.data.toList)]) from (numsOf_next acc kh U.data.toList).symm)
                have HT8 := Lib.hid (show textsOf acc ++ [U] = textsOf (acc ++ [(kh, U.data.toList)]) from (textsOf_next acc kh U.data.toList).symm)
                have ho18 := HO18.out
                have ho28 := HO28.out
                rw [HN8.out] at ho18
                rw [HT8.out] at ho28
                have HO19 := Lib.hid ho18
                have HO29 := Lib.hid ho28
                clear ho18 ho28
                go_wp2
                go_roundw
                case rel => exact ⟨kk, j + 1, acc ++ [(kh, U.data.toList)], pp, HKK.out.1, (by rw [HKK.out.2.2.2]; go_num), rfl, HJ8.out, HKK.out.2.1, HCL8.out, HO19.out, HO29.out, HW8.out⟩
                case measure => have := HKK.out; simp [intOf]; omega
            · have g4 : decide ((p.size : Int) < (N : Int)) = true := by simp; omega
              have g5 : decide (p.size < N) = true := by simp; omega
              have hVV : V = ⟨#[]⟩ := by
                have hpl : p.data.toList.length = p.size := rfl
                have hnone : climbed N room.data.toList z hh p0.data.toList = none := by
                  rw [HCL.out, HST.out, if_pos (by omega)]
                  rfl
                rw [HRES.out, show H - z = (H - z - 1) + 1 by omega, many, hnone]
              subst hVV
              clear hle
              go_wp2
              go_ret
              exact ⟨rfl, HB0.out.trans ((HB1.out.trans ((HW.out.trans (HWI.out.mono HW.out.size)).mono HB1.out.size)).mono HB0.out.size)⟩
        · obtain rfl : k = n := by omega
          have hce : climbed N room.data.toList z hh p0.data.toList = some (acc, p.data.toList) := by
            rw [HCL.out, List.drop_eq_nil_of_le (by rw [HHL.out]; exact Nat.le_refl _), climbed]
            simp
          have hsm := climbed_small N room.data.toList z hN hh p0.data.toList (acc, p.data.toList) hce (fun q hq => (HHB.out q hq).1)
          have hcn := climbed_nums N room.data.toList z hN hh p0.data.toList (acc, p.data.toList) hce
          have HV2 := Lib.hid (show V = tx (many N room.data.toList (H - (z + 1)) (z + 1) acc p.data.toList) from by
            rw [HRES.out, show H - z = (H - (z + 1)) + 1 by omega, many, hce])
          have HU2 := Lib.hid (show Up (numsOf acc) from by rw [hcn.1]; exact halves_up _ HUP.out)
          have HB2 := Lib.hid (show ∀ q ∈ acc, q.1 ≤ 1000000 ∧ q.2.length ≤ 1000 from fun q hq => ⟨(hsm.1 q hq).1, by have := hcn.2 q hq; omega⟩)
          have HJ0 := Lib.hid (show 0 < j from Nat.pos_of_ne_zero (by have h1 := hsm.2.2 (by have := HHL.out; omega); rw [← HJ.out]; exact h1))
          obtain ⟨a5, d5, rfl, -, hi5⟩ := own_ints HO1.out
          obtain ⟨a6, d6, rfl, -, hi6⟩ := own_texts HO2.out
          have HI5 := Lib.hid hi5
          have HI6 := Lib.hid hi6
          have HW5 := Lib.hid (HW.out.trans (HWI.out.mono HW.out.size))
          clear hce hsm hcn hi5 hi6
          go_wp2
          go_roundw
          case rel => exact ⟨z + 1, j, a5, a6, d5, d6, acc, p, by omega, by go_num, rfl, rfl, rfl, HJ.out, HJ0.out, by omega, HI5.out, HI6.out, HU2.out, HB2.out, HV2.out, HW5.out⟩
          case measure => simp [intOf]; omega
    · obtain rfl : z = H := by omega
      obtain ⟨q, tl, hq⟩ : ∃ q tl, hh = q :: tl := by
        cases hh with
        | nil => exact absurd HHL.out (by simp; omega)
        | cons q tl => exact ⟨q, tl, rfl⟩
      obtain ⟨b2, o2, rfl, hb2, hc2⟩ := HI2.out (by rw [textsOf_length]; have := HHL.out; omega)
      have hce := hc2 0 (tx q.2) (by rw [hq]; rfl)
      rw [Nat.add_zero] at hce
      have hres := HRES.out
      rw [Nat.sub_self, many, hq] at hres
      clear hc2 hb2
      by_cases hp : p0 = ⟨#[]⟩
      · subst hp
        have hVV : V = tx q.2 := by rw [hres]; rfl
        rw [← hVV] at hce
        clear hVV hres hq
        go_wp2
        go_ret
        exact ⟨rfl, HB0.out.trans ((HB1.out.trans (HW.out.mono HB1.out.size)).mono HB0.out.size)⟩
      · have hpl : ¬ p0.data.toList = [] := fun e => hp (by
          apply ByteArray.ext
          apply Array.ext'
          exact e)
        have hVV : V = ⟨#[]⟩ := by rw [hres, if_neg hpl]
        subst hVV
        have g1 : p0.toList.isEmpty = false := by
          rw [Go.ByteArray.toList_eq]
          cases hx : p0.data.toList with
          | nil => exact absurd hx hpl
          | cons _ _ => rfl
        have g2 : (!p0.toList.isEmpty) = true := by rw [g1]; rfl
        clear hres hq hp hpl
        go_wp2
        go_ret
        exact ⟨rfl, HB0.out.trans ((HB1.out.trans (HW.out.mono HB1.out.size)).mono HB0.out.size)⟩
end Go.Proofs.YtncafbejgidliaaDoor.RefGrv
