/-
  Run of package chains answers what the plain mathematics of the text Chn says, and leaves all memory that was there as it was. Conditions: room and value have together no more than 2^38 bytes, the constant table of package digest lies as the program's text lays it.
-/
import Derived.Test.YtncafbejgidliaaDoorChnB
import Derived.WalkMore
namespace Go.Proofs.YtncafbejgidliaaDoor.Chn
open Go.RowKit Mur Sha
set_option maxRecDepth 100000

theorem run_no (n h : Int) (hr : ¬ Right n h) (room v : ByteArray) (s0 s1 a b : Int) (w : World) :
    Calls Tryd.prog 29 #[.agg #[.int .i64 n, .int .i64 h], .string room, .agg #[.int .i64 s0, .int .i64 s1], .int .i64 a, .int .i64 b, .string v] w fun e w' => e = .returned (.string ⟨#[]⟩) ∧ Below w.heap.size w w' := by
  have R1 := Lib.hid (fun u => right_no n h hr u)
  clear hr
  go_enter Tryd.func29, Tryd.ntmps29
  go_wp2_with fail
  go_step3
  go_wp2_with fail
  refine (R1.out _).mono ?_
  rintro e w1 ⟨rfl, hb⟩
  have HB := Lib.hid ((((Below.refl w.heap.size w).alloc (Nat.le_refl _) (.cells #[.int .i64 n, .int .i64 h] 23)).alloc (by simp) (.cells #[.int .i64 s0, .int .i64 s1] 24)).trans (hb.mono (by simp <;> omega)))
  clear hb
  go_wp2
  try rw [Exit.noGoto_ret]
  go_ret
  exact ⟨rfl, HB.out⟩

/-- Run's value ahead of number j. -/
def sofar (N : Nat) (room : List UInt8) (s0 s1 : Int) (f j : Nat) (v : List UInt8) : List UInt8 := run N room s0 s1 f (j - f) v
theorem sofar_next (N : Nat) (room : List UInt8) (s0 s1 : Int) (f j : Nat) (v : List UInt8) (h : f ≤ j) : sofar N room s0 s1 f (j + 1) v = step N room s0 s1 (j : Int) (sofar N room s0 s1 f j v) := by
  unfold sofar
  rw [show j + 1 - f = (j - f) + 1 by omega, run, show f + (j - f) = j by omega]
theorem sofar_wait (N : Nat) (room : List UInt8) (s0 s1 : Int) (f j : Nat) (v : List UInt8) (h : j < f) : sofar N room s0 s1 f (j + 1) v = sofar N room s0 s1 f j v := by
  unfold sofar
  rw [show j + 1 - f = 0 by omega, show j - f = 0 by omega]
theorem sofar_end (N : Nat) (room : List UInt8) (s0 s1 a b : Int) (j : Nat) (v : List UInt8) (h : j = min b.toNat 15) : runI N room s0 s1 a b v = sofar N room s0 s1 a.toNat j v := by
  unfold sofar runI fromOf stepsOf
  rw [h]

set_option maxHeartbeats 3200000 in
theorem run_any (N : Nat) (h : Int) (room v : ByteArray) (s0 s1 a b : Int) (V : ByteArray) (w : World) (hr : Right (N : Int) h) (hs : room.size + v.size ≤ 274877906944) (hV : V = tx (runI N room.data.toList s0 s1 a b v.data.toList)) (hk : Consts w) :
    Calls Tryd.prog 29 #[.agg #[.int .i64 (N : Int), .int .i64 h], .string room, .agg #[.int .i64 s0, .int .i64 s1], .int .i64 a, .int .i64 b, .string v] w fun e w' => e = .returned (.string V) ∧ Below w.heap.size w w' := by
  have R1 := Lib.hid (fun u => right_yes N h hr u)
  have hN : N ≤ 32 := by have := hr.2.1; omega
  clear hr
  have hsz : ∀ k, (sofar N room.data.toList s0 s1 a.toNat k v.data.toList).length ≤ v.size + 32 := fun k => run_le N _ _ _ _ _ _ hN
  have R2 := Lib.hid (fun (t T : ByteArray) (j : Int) (u : World) (ht : t.size ≤ v.size + 32) (hT : T = tx (step N room.data.toList s0 s1 j t.data.toList)) (hu : Consts u) => step_any N h room t s0 s1 j T u hN (by omega) hT hu)
  have HV := Lib.hid hV
  have HSZ := Lib.hid hsz
  clear hV hsz hs hN
  have hK : Keep w 1 ((w.alloc (.cells #[.int .i64 (N : Int), .int .i64 h] 23)).alloc (.cells #[.int .i64 s0, .int .i64 s1] 24)) := ⟨by simp, hk.below hk.1 ((((Below.refl w.heap.size w).alloc (Nat.le_refl _) _).alloc (by simp) _)), (((Below.refl w.heap.size w).alloc (Nat.le_refl _) _).alloc (by simp) _)⟩
  clear hk
  go_enter Tryd.func29, Tryd.ntmps29
  go_wp2_with fail
  have hc0 : ((w.alloc (.cells #[.int .i64 (N : Int), .int .i64 h] 23)).alloc (.cells #[.int .i64 s0, .int .i64 s1] 24)).cell? ⟨w.heap.size, 0, none⟩ = some (.int .i64 (N : Int)) := by rw [World.cell?_alloc_lt _ _ _ (by simp)]; simp
  have hc1 : ((w.alloc (.cells #[.int .i64 (N : Int), .int .i64 h] 23)).alloc (.cells #[.int .i64 s0, .int .i64 s1] 24)).cell? ⟨w.heap.size, 1, none⟩ = some (.int .i64 h) := by rw [World.cell?_alloc_lt _ _ _ (by simp)]; simp
  have hc2 : ((w.alloc (.cells #[.int .i64 (N : Int), .int .i64 h] 23)).alloc (.cells #[.int .i64 s0, .int .i64 s1] 24)).cell? ⟨w.heap.size + 1, 0, none⟩ = some (.int .i64 s0) := by simp
  have hc3 : ((w.alloc (.cells #[.int .i64 (N : Int), .int .i64 h] 23)).alloc (.cells #[.int .i64 s0, .int .i64 s1] 24)).cell? ⟨w.heap.size + 1, 1, none⟩ = some (.int .i64 s1) := by simp
  generalize (w.alloc (.cells #[.int .i64 (N : Int), .int .i64 h] 23)).alloc (.cells #[.int .i64 s0, .int .i64 s1] 24) = wz at *
  have hl1 := hK.room
  have hl0 : w.heap.size < wz.heap.size := by omega
  have HC := Lib.hid (fun (u : World) (q : Below wz.heap.size wz u) => (⟨(q.cell (p := ⟨w.heap.size, 0, none⟩) hl0).trans hc0, (q.cell (p := ⟨w.heap.size, 1, none⟩) hl0).trans hc1, (q.cell (p := ⟨w.heap.size + 1, 0, none⟩) hl1).trans hc2, (q.cell (p := ⟨w.heap.size + 1, 1, none⟩) hl1).trans hc3, hK.next q⟩ :
    u.cell? ⟨w.heap.size, 0, none⟩ = some (.int .i64 (N : Int)) ∧ u.cell? ⟨w.heap.size, 1, none⟩ = some (.int .i64 h) ∧ u.cell? ⟨w.heap.size + 1, 0, none⟩ = some (.int .i64 s0) ∧ u.cell? ⟨w.heap.size + 1, 1, none⟩ = some (.int .i64 s1) ∧ Keep w 1 u))
  obtain ⟨c0, c1, c2, c3, -⟩ := HC.out wz (Below.refl _ _)
  clear hK hc0 hc1 hc2 hc3 hl0 hl1
  go_step3
  go_wp2_with fail
  refine (R1.out _).mono ?_
  rintro e w1 ⟨rfl, hb⟩
  have HB := Lib.hid hb
  clear hb c0 c1 c2 c3
  go_wp2_with fail
  go_step3
  go_wp2_with fail
  go_loopw [5, 13, 17, 20, 24] (fun x _ i _ _ wr => ∃ (j : Nat) (t : ByteArray), j ≤ 15 ∧ j ≤ b.toNat ∧ i = .int .i64 j ∧ x = .string t ∧ t = tx (sofar N room.data.toList s0 s1 a.toNat j v.data.toList) ∧ Below wz.heap.size wz wr) (fun _ _ i _ _ _ => 15 - (intOf i).toNat)
  case atStart => exact ⟨0, v, by omega, by omega, rfl, rfl, by rw [sofar, Nat.zero_sub, run], HB.out⟩
  case round =>
    clear HB
    obtain ⟨j, t, hj, hjb, rfl, rfl, ht, hbel⟩ := hrel
    have hts : t.size ≤ v.size + 32 := by rw [ht]; exact HSZ.out j
    have HT := Lib.hid ht
    have HW := Lib.hid hbel
    clear ht hbel
    by_cases hlt : j < 15
    · by_cases hto : b ≤ (j : Int)
      · have hd : decide (b ≤ (j : Int)) = true := by simp [hto]
        go_wp2
        have hjj : j = min b.toNat 15 := by omega
        have he : V = t := by rw [HV.out, HT.out, sofar_end N _ s0 s1 a b j _ hjj]
        subst he
        try rw [Exit.noGoto_ret]
        go_ret
        exact ⟨rfl, (HC.out _ HW.out).2.2.2.2.below⟩
      · have hd : decide (b ≤ (j : Int)) = false := by simp [hto]
        by_cases hf : a ≤ (j : Int)
        · have hd2 : decide (a ≤ (j : Int)) = true := by simp [hf]
          obtain ⟨T, hT⟩ : ∃ T, T = tx (step N room.data.toList s0 s1 (j : Int) t.data.toList) := ⟨_, rfl⟩
          have hT2 : T = tx (sofar N room.data.toList s0 s1 a.toNat (j + 1) v.data.toList) := by rw [hT, HT.out, sofar_next _ _ _ _ _ _ _ (by omega)]
          obtain ⟨c0, c1, c2, c3, hkk⟩ := HC.out _ HW.out
          have R3 := Lib.hid (R2.out t T (j : Int) wr hts hT hkk.consts)
          have HT2 := Lib.hid hT2
          clear hT hT2 hkk hts
          go_wp2_with fail
          refine R3.out.mono ?_
          rintro e w2 ⟨rfl, hb2⟩
          have HW2 := Lib.hid (HW.out.trans (hb2.mono HW.out.size))
          clear hb2 c0 c1 c2 c3
          go_wp2
          go_roundw
          case rel => exact ⟨j + 1, T, by omega, by omega, by go_num, rfl, HT2.out, HW2.out⟩
          case measure => simp [intOf]; omega
        · have hd2 : decide (a ≤ (j : Int)) = false := by simp [hf]
          go_wp2
          go_roundw
          case rel => exact ⟨j + 1, t, by omega, by omega, by go_num, rfl, by rw [HT.out, sofar_wait _ _ _ _ _ _ _ (by omega)], HW.out⟩
          case measure => simp [intOf]; omega
    · go_wp2
      have hjj : j = min b.toNat 15 := by omega
      have he : V = t := by rw [HV.out, HT.out, sofar_end N _ s0 s1 a b j _ hjj]
      subst he
      try rw [Exit.noGoto_ret]
      go_ret
      exact ⟨rfl, (HC.out _ HW.out).2.2.2.2.below⟩
end Go.Proofs.YtncafbejgidliaaDoor.Chn
