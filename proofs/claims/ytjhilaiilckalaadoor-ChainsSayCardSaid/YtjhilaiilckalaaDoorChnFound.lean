/-
  Found of package chains answers what the plain mathematics of the text Chn says, and leaves all memory that was there as it was. Conditions: room and signature have together no more than 2^36 bytes, the constant table of package digest lies as the program's text lays it.
-/
import Derived.Test.YtjhilaiilckalaaDoorChnSign
import Derived.IntWalk
namespace Go.Proofs.YtjhilaiilckalaaDoor.Chn
open Go.RowKit Mur Sha
set_option maxRecDepth 100000

theorem piece_cut (s : ByteArray) (a n b : Nat) (hb : b = a + n) : s.extract a b = tx ((s.data.toList.drop a).take n) := by
  apply ByteArray.ext
  apply Array.ext'
  rw [hb]
  simp [ByteArray.data_extract, Array.toList_extract, List.extract]

set_option maxHeartbeats 3200000 in
theorem found_no (n h : Int) (hr : ¬ Right n h) (room sig d : ByteArray) (leaf : Int) (w : World) :
    Calls Tryd.prog 21 #[.agg #[.int .i64 n, .int .i64 h], .string room, .int .i64 leaf, .string sig, .string d] w fun e w' => e = .returned (.string ⟨#[]⟩) ∧ Below w.heap.size w w' := by
  have R1 := Lib.hid (fun u => right_no n h hr u)
  clear hr
  have hB0 := (Below.refl w.heap.size w).alloc (Nat.le_refl _) (.cells #[.int .i64 n, .int .i64 h] 23)
  have hc0 : (w.alloc (.cells #[.int .i64 n, .int .i64 h] 23)).cell? ⟨w.heap.size, 0, none⟩ = some (.int .i64 n) := by simp
  have hc1 : (w.alloc (.cells #[.int .i64 n, .int .i64 h] 23)).cell? ⟨w.heap.size, 1, none⟩ = some (.int .i64 h) := by simp
  have hlt : w.heap.size < (w.alloc (.cells #[.int .i64 n, .int .i64 h] 23)).heap.size := by simp
  go_enter Tryd.func21, Tryd.ntmps21
  go_upto_region 1 with (fail)
  generalize w.alloc (.cells #[.int .i64 n, .int .i64 h] 23) = wz at *
  have HC := Lib.hid (fun (u : World) (q : Below wz.heap.size wz u) => (⟨(q.cell (p := ⟨w.heap.size, 0, none⟩) hlt).trans hc0, (q.cell (p := ⟨w.heap.size, 1, none⟩) hlt).trans hc1⟩ : u.cell? ⟨w.heap.size, 0, none⟩ = some (.int .i64 n) ∧ u.cell? ⟨w.heap.size, 1, none⟩ = some (.int .i64 h)))
  have HB0 := Lib.hid hB0
  clear hB0 hc0 hc1 hlt
  refine Steady.region 12 (by kernel_rfl) (by kernel_rfl) (fun u => Below wz.heap.size wz u) ((Below.refl _ _).drew) ?_
  simp only [List.take_succ_cons, List.take_zero, List.drop_succ_cons, List.drop_zero]
  refine Steady.take ?_ rfl (by intro u hu; obtain ⟨c0, c1⟩ := HC.out u hu; go_simp; with_reducible rfl) ?_
  simp only [Act.put, List.setIfInBounds_toArray, List.set_cons_zero, List.set_cons_succ]
  refine Steady.call _ _ _ rfl ?_ (Steady.kept R1.out) ?_
  · intro u
    go_simp
  simp only [Act.put, List.setIfInBounds_toArray, List.set_cons_zero, List.set_cons_succ]
  refine Steady.take ?_ rfl (by intro u hu; go_simp; with_reducible rfl) ?_
  simp only [Act.put, List.setIfInBounds_toArray, List.set_cons_zero, List.set_cons_succ]
  refine Steady.take ?_ rfl (by intro u hu; go_simp; with_reducible rfl) ?_
  simp only [Act.put, List.setIfInBounds_toArray, List.set_cons_zero, List.set_cons_succ]
  refine Steady.pass rfl ?_
  simp only [Act.put, List.setIfInBounds_toArray, List.set_cons_zero, List.set_cons_succ]
  refine Steady.pass rfl ?_
  simp only [Act.put, List.setIfInBounds_toArray, List.set_cons_zero, List.set_cons_succ]
  refine Steady.pass rfl ?_
  simp only [Act.put, List.setIfInBounds_toArray, List.set_cons_zero, List.set_cons_succ]
  refine Steady.pass rfl ?_
  simp only [Act.put, List.setIfInBounds_toArray, List.set_cons_zero, List.set_cons_succ]
  refine Steady.pass rfl ?_
  simp only [Act.put, List.setIfInBounds_toArray, List.set_cons_zero, List.set_cons_succ]
  refine Steady.pass rfl ?_
  simp only [Act.put, List.setIfInBounds_toArray, List.set_cons_zero, List.set_cons_succ]
  refine Steady.pass rfl ?_
  simp only [Act.put, List.setIfInBounds_toArray, List.set_cons_zero, List.set_cons_succ]
  refine Steady.pass rfl ?_
  simp only [Act.put, List.setIfInBounds_toArray, List.set_cons_zero, List.set_cons_succ]
  refine Steady.nil ?_
  intro w5 hb5
  have HB5 := Lib.hid (HB0.out.trans (hb5.mono HB0.out.size))
  clear hb5
  go_wp2
  go_ret
  exact ⟨rfl, HB5.out⟩

set_option maxHeartbeats 3200000 in
theorem found_other (N : Nat) (h : Int) (hr : Right (N : Int) h) (room sig d : ByteArray) (leaf : Int) (hsz : ¬ sig.size = N * (2 * N + 3)) (w : World) :
    Calls Tryd.prog 21 #[.agg #[.int .i64 (N : Int), .int .i64 h], .string room, .int .i64 leaf, .string sig, .string d] w fun e w' => e = .returned (.string ⟨#[]⟩) ∧ Below w.heap.size w w' := by
  have R1 := Lib.hid (fun u => right_yes N h hr u)
  have R2 := Lib.hid (fun u => count_yes N h hr u)
  have hN : N ≤ 32 := by have := hr.2.1; omega
  obtain ⟨A, hA⟩ : ∃ A, A = N * (2 * N + 3) := ⟨_, rfl⟩
  have hA2 : A ≤ 2144 := by rw [hA]; exact pieces_le N _ hN (Nat.le_refl _)
  have hw : IntKind.i64.wrap ((N : Int) * (2 * (N : Int) + 3)) = (A : Int) := by
    have e : (N : Int) * (2 * (N : Int) + 3) = ((N * (2 * N + 3) : Nat) : Int) := by push_cast; rfl
    rw [e, ← hA]
    exact IntWalk.i64_in _ (by omega)
  have hne : ((sig.size : Int) != (A : Int)) = true := by simp; omega
  clear hr hA hsz
  have hB0 := (Below.refl w.heap.size w).alloc (Nat.le_refl _) (.cells #[.int .i64 (N : Int), .int .i64 h] 23)
  have hc0 : (w.alloc (.cells #[.int .i64 (N : Int), .int .i64 h] 23)).cell? ⟨w.heap.size, 0, none⟩ = some (.int .i64 (N : Int)) := by simp
  have hc1 : (w.alloc (.cells #[.int .i64 (N : Int), .int .i64 h] 23)).cell? ⟨w.heap.size, 1, none⟩ = some (.int .i64 h) := by simp
  have hlt : w.heap.size < (w.alloc (.cells #[.int .i64 (N : Int), .int .i64 h] 23)).heap.size := by simp
  go_enter Tryd.func21, Tryd.ntmps21
  go_upto_region 1 with (fail)
  generalize w.alloc (.cells #[.int .i64 (N : Int), .int .i64 h] 23) = wz at *
  have HC := Lib.hid (fun (u : World) (q : Below wz.heap.size wz u) => (⟨(q.cell (p := ⟨w.heap.size, 0, none⟩) hlt).trans hc0, (q.cell (p := ⟨w.heap.size, 1, none⟩) hlt).trans hc1⟩ : u.cell? ⟨w.heap.size, 0, none⟩ = some (.int .i64 (N : Int)) ∧ u.cell? ⟨w.heap.size, 1, none⟩ = some (.int .i64 h)))
  have HB0 := Lib.hid hB0
  clear hB0 hc0 hc1 hlt
  refine Steady.region 12 (by kernel_rfl) (by kernel_rfl) (fun u => Below wz.heap.size wz u) ((Below.refl _ _).drew) ?_
  simp only [List.take_succ_cons, List.take_zero, List.drop_succ_cons, List.drop_zero]
  refine Steady.take ?_ rfl (by intro u hu; obtain ⟨c0, c1⟩ := HC.out u hu; go_simp; with_reducible rfl) ?_
  simp only [Act.put, List.setIfInBounds_toArray, List.set_cons_zero, List.set_cons_succ]
  refine Steady.call _ _ _ rfl ?_ (Steady.kept R1.out) ?_
  · intro u
    go_simp
  simp only [Act.put, List.setIfInBounds_toArray, List.set_cons_zero, List.set_cons_succ]
  refine Steady.take ?_ rfl (by intro u hu; go_simp; with_reducible rfl) ?_
  simp only [Act.put, List.setIfInBounds_toArray, List.set_cons_zero, List.set_cons_succ]
  refine Steady.take ?_ rfl (by intro u hu; go_simp; with_reducible rfl) ?_
  simp only [Act.put, List.setIfInBounds_toArray, List.set_cons_zero, List.set_cons_succ]
  refine Steady.take ?_ rfl (by intro u hu; go_simp; with_reducible rfl) ?_
  simp only [Act.put, List.setIfInBounds_toArray, List.set_cons_zero, List.set_cons_succ]
  refine Steady.take ?_ rfl (by intro u hu; go_simp; with_reducible rfl) ?_
  simp only [Act.put, List.setIfInBounds_toArray, List.set_cons_zero, List.set_cons_succ]
  refine Steady.take ?_ rfl (by intro u hu; go_simp; with_reducible rfl) ?_
  simp only [Act.put, List.setIfInBounds_toArray, List.set_cons_zero, List.set_cons_succ]
  refine Steady.take ?_ rfl (by intro u hu; obtain ⟨c0, c1⟩ := HC.out u hu; go_simp; with_reducible rfl) ?_
  simp only [Act.put, List.setIfInBounds_toArray, List.set_cons_zero, List.set_cons_succ]
  refine Steady.take ?_ rfl (by intro u hu; obtain ⟨c0, c1⟩ := HC.out u hu; go_simp; with_reducible rfl) ?_
  simp only [Act.put, List.setIfInBounds_toArray, List.set_cons_zero, List.set_cons_succ]
  refine Steady.call _ _ _ rfl ?_ (Steady.kept R2.out) ?_
  · intro u
    go_simp
  simp only [Act.put, List.setIfInBounds_toArray, List.set_cons_zero, List.set_cons_succ]
  refine Steady.take ?_ rfl (by intro u hu; go_simp; with_reducible rfl) ?_
  simp only [Act.put, List.setIfInBounds_toArray, List.set_cons_zero, List.set_cons_succ]
  refine Steady.take ?_ rfl (by intro u hu; go_simp; with_reducible rfl) ?_
  simp only [Act.put, List.setIfInBounds_toArray, List.set_cons_zero, List.set_cons_succ]
  refine Steady.nil ?_
  intro w5 hb5
  have HB5 := Lib.hid (HB0.out.trans (hb5.mono HB0.out.size))
  clear hb5
  go_wp2
  go_ret
  exact ⟨rfl, HB5.out⟩


set_option maxHeartbeats 3200000 in
theorem found_any (N : Nat) (h : Int) (room sig d : ByteArray) (leaf : Int) (V : ByteArray) (w : World) (hr : Right (N : Int) h) (hz : sig.size = N * (2 * N + 3)) (hs : room.size ≤ 68719476736) (hV : V = tx (found N room.data.toList leaf sig.data.toList d.data.toList)) (hk : Consts w) :
    Calls Tryd.prog 21 #[.agg #[.int .i64 (N : Int), .int .i64 h], .string room, .int .i64 leaf, .string sig, .string d] w fun e w' => e = .returned (.string V) ∧ Below w.heap.size w w' := by
  have R1 := Lib.hid (fun u => right_yes N h hr u)
  have R2 := Lib.hid (fun u => count_yes N h hr u)
  have R3 := Lib.hid (fun u => digits_any N h d u hr)
  have hN : N ≤ 32 := by have := hr.2.1; omega
  obtain ⟨M, hM⟩ : ∃ M, M = 2 * N + 3 := ⟨_, rfl⟩
  have hM67 : M ≤ 67 := by omega
  have hMi : (2 * (N : Int) + 3) = (M : Int) := by omega
  have hpl := fun k (hk : k ≤ M) => pieces_le N k hN (by omega)
  have hmul := fun k (hk : k ≤ M) => show N * k ≤ N * M from Nat.mul_le_mul_left _ hk
  rw [← hM] at hz
  have hl := fun c (hc : c < M) => foundP_length N room.data.toList leaf sig.data.toList d.data.toList hN (by rw [← hM]; exact hz) c (by omega)
  have hpc := fun (c : Nat) (hc : c < M) => show ((sig.data.toList.drop (N * c)).take N).length = N from by
    have h1 := hmul (c + 1) hc
    rw [Nat.mul_succ] at h1
    have h2 : sig.data.toList.length = sig.size := rfl
    rw [List.length_take, List.length_drop, h2, hz]
    omega
  have RR := Lib.hid (fun (c : Nat) (hc : c < M) (T P : ByteArray) (hT : T = tx ((sig.data.toList.drop (N * c)).take N)) (hP : P = tx (foundP N room.data.toList leaf sig.data.toList d.data.toList c)) (u : World) (hu : Consts u) =>
    run_any N h room T leaf (c : Int) (dig N d.data.toList c : Int) 15 P u hr (by rw [hT]; have := hpc c hc; show room.size + ((sig.data.toList.drop (N * c)).take N).length ≤ _; omega) (by rw [hP, hT]; rfl) hu)
  obtain ⟨F, hF⟩ : ∃ F, F = foundP N room.data.toList leaf sig.data.toList d.data.toList := ⟨_, rfl⟩
  rw [← hF] at hl RR
  have hul : ∀ k, k ≤ M → (upto F k).length = N * k := fun k => by
    induction k with
    | zero => intro _; rfl
    | succ k ih => intro hk; rw [upto, List.length_append, ih (by omega), hl k (by omega), Nat.mul_succ]
  have RT := Lib.hid (fun (u : World) (hu : Consts u) => together_any N h room (tx (upto F M)) leaf V u hN (by have := hul M (Nat.le_refl _); have := hpl M (Nat.le_refl _); show room.size + (upto F M).length ≤ _; omega) (by rw [hV, found, ← hF, ← hM]) hu)
  have hda := fun c hc => dig_at N d.data.toList c hc
  generalize dig N d.data.toList = D at *
  generalize digs N d.data.toList = L at *
  obtain ⟨A, hA⟩ : ∃ A, A = N * M := ⟨_, rfl⟩
  have hA2 : A ≤ 2144 := by rw [hA]; exact hpl M (Nat.le_refl _)
  have hwA : IntKind.i64.wrap ((N : Int) * (2 * (N : Int) + 3)) = (A : Int) := by
    have e : (N : Int) * (2 * (N : Int) + 3) = ((N * M : Nat) : Int) := by rw [hMi]; push_cast; rfl
    rw [e, ← hA]
    exact IntWalk.i64_in _ (by omega)
  have heq : ((sig.size : Int) != (A : Int)) = false := by simp; omega
  have HWR := Lib.hid (fun (k : Nat) (hk : k < M) => show IntKind.i64.wrap ((N : Int) * (k : Int)) = ((N * k : Nat) : Int) ∧ IntKind.i64.wrap ((N : Int) * ((k : Int) + 1)) = ((N * (k + 1) : Nat) : Int) ∧ IntKind.i64.wrap ((k : Int) + 1) = (k : Int) + 1 ∧ ((N * k : Nat) : Int) ≤ ((N * (k + 1) : Nat) : Int) ∧ ((N * (k + 1) : Nat) : Int) ≤ (sig.size : Int) from by
    have h1 := hmul k (by omega)
    have h2 := hmul (k + 1) hk
    have h3 : N * (k + 1) = N * k + N := Nat.mul_succ _ _
    have h4 := hpl (k + 1) hk
    have e1 : (N : Int) * (k : Int) = ((N * k : Nat) : Int) := by push_cast; rfl
    have e2 : (N : Int) * ((k : Int) + 1) = ((N * (k + 1) : Nat) : Int) := by push_cast; rfl
    refine ⟨by rw [e1]; exact IntWalk.i64_in _ (by omega), by rw [e2]; exact IntWalk.i64_in _ (by omega), IntWalk.i64_in _ (by omega), by omega, by omega⟩)
  have HDA := Lib.hid hda
  have HUL := Lib.hid hul
  have HFL := Lib.hid hl
  have HPL := Lib.hid hpl
  have HM0 := Lib.hid hM
  clear hV hs hF hr hl hul hda hz hA hmul hpl hpc hMi hM
  have hB0 := (Below.refl w.heap.size w).alloc (Nat.le_refl _) (.cells #[.int .i64 (N : Int), .int .i64 h] 23)
  have hc0 : (w.alloc (.cells #[.int .i64 (N : Int), .int .i64 h] 23)).cell? ⟨w.heap.size, 0, none⟩ = some (.int .i64 (N : Int)) := by simp
  have hc1 : (w.alloc (.cells #[.int .i64 (N : Int), .int .i64 h] 23)).cell? ⟨w.heap.size, 1, none⟩ = some (.int .i64 h) := by simp
  have hlt : w.heap.size < (w.alloc (.cells #[.int .i64 (N : Int), .int .i64 h] 23)).heap.size := by simp
  go_enter Tryd.func21, Tryd.ntmps21
  go_upto_region 1 with (fail)
  generalize w.alloc (.cells #[.int .i64 (N : Int), .int .i64 h] 23) = w00 at *
  have HC := Lib.hid (fun (u : World) (q : Below w00.heap.size w00 u) => (⟨(q.cell (p := ⟨w.heap.size, 0, none⟩) hlt).trans hc0, (q.cell (p := ⟨w.heap.size, 1, none⟩) hlt).trans hc1, hk.below hk.1 (hB0.trans (q.mono hB0.size))⟩ : u.cell? ⟨w.heap.size, 0, none⟩ = some (.int .i64 (N : Int)) ∧ u.cell? ⟨w.heap.size, 1, none⟩ = some (.int .i64 h) ∧ Consts u))
  have HB00 := Lib.hid hB0
  clear hB0 hc0 hc1 hlt hk
  refine Steady.region 12 (by kernel_rfl) (by kernel_rfl) (fun u => Below w00.heap.size w00 u) ((Below.refl _ _).drew) ?_
  simp only [List.take_succ_cons, List.take_zero, List.drop_succ_cons, List.drop_zero]
  refine Steady.take ?_ rfl (by intro u hu; obtain ⟨c0, c1, -⟩ := HC.out u hu; go_simp; with_reducible rfl) ?_
  simp only [Act.put, List.setIfInBounds_toArray, List.set_cons_zero, List.set_cons_succ]
  refine Steady.call _ _ _ rfl ?_ (Steady.kept R1.out) ?_
  · intro u
    go_simp
  simp only [Act.put, List.setIfInBounds_toArray, List.set_cons_zero, List.set_cons_succ]
  refine Steady.take ?_ rfl (by intro u hu; go_simp; with_reducible rfl) ?_
  simp only [Act.put, List.setIfInBounds_toArray, List.set_cons_zero, List.set_cons_succ]
  refine Steady.take ?_ rfl (by intro u hu; go_simp; with_reducible rfl) ?_
  simp only [Act.put, List.setIfInBounds_toArray, List.set_cons_zero, List.set_cons_succ]
  refine Steady.take ?_ rfl (by intro u hu; go_simp; with_reducible rfl) ?_
  simp only [Act.put, List.setIfInBounds_toArray, List.set_cons_zero, List.set_cons_succ]
  refine Steady.take ?_ rfl (by intro u hu; go_simp; with_reducible rfl) ?_
  simp only [Act.put, List.setIfInBounds_toArray, List.set_cons_zero, List.set_cons_succ]
  refine Steady.take ?_ rfl (by intro u hu; go_simp; with_reducible rfl) ?_
  simp only [Act.put, List.setIfInBounds_toArray, List.set_cons_zero, List.set_cons_succ]
  refine Steady.take ?_ rfl (by intro u hu; obtain ⟨c0, c1, -⟩ := HC.out u hu; go_simp; with_reducible rfl) ?_
  simp only [Act.put, List.setIfInBounds_toArray, List.set_cons_zero, List.set_cons_succ]
  refine Steady.take ?_ rfl (by intro u hu; obtain ⟨c0, c1, -⟩ := HC.out u hu; go_simp; with_reducible rfl) ?_
  simp only [Act.put, List.setIfInBounds_toArray, List.set_cons_zero, List.set_cons_succ]
  refine Steady.call _ _ _ rfl ?_ (Steady.kept R2.out) ?_
  · intro u
    go_simp
  simp only [Act.put, List.setIfInBounds_toArray, List.set_cons_zero, List.set_cons_succ]
  refine Steady.take ?_ rfl (by intro u hu; go_simp; with_reducible rfl) ?_
  simp only [Act.put, List.setIfInBounds_toArray, List.set_cons_zero, List.set_cons_succ]
  refine Steady.take ?_ rfl (by intro u hu; go_simp; with_reducible rfl) ?_
  simp only [Act.put, List.setIfInBounds_toArray, List.set_cons_zero, List.set_cons_succ]
  refine Steady.nil ?_
  intro wz hz
  have HC0 := Lib.hid (fun (u : World) (q : Below wz.heap.size wz u) => HC.out u (hz.trans (q.mono hz.size)))
  have HB0 := Lib.hid (HB00.out.trans (hz.mono HB00.out.size))
  clear hz HB00 HC heq hwA
  go_upto_region 4 with (fail)
  have HBU := Lib.hid (Use.builder_new wz.heap.size wz.heap.size _ (Nat.le_refl _) (_root_.Go.heap_alloc_new wz (.cells #[.pointer none, .slice none 0 0] 52)))
  have hlt2 : wz.heap.size < (wz.alloc (.cells #[.pointer none, .slice none 0 0] 52)).heap.size := by simp
  have HW1 := Lib.hid ((Below.refl wz.heap.size wz).alloc (Nat.le_refl _) (.cells #[.pointer none, .slice none 0 0] 52))
  generalize wz.alloc (.cells #[.pointer none, .slice none 0 0] 52) = w2 at *
  obtain ⟨c0, c1, -⟩ := HC0.out _ HW1.out
  go_wp2_with fail
  refine (R3.out _).mono ?_
  rintro e w3 ⟨v, rfl, hown, hb3⟩
  obtain ⟨g, cp, cur, rfl, hg1, hg2, hg3, hg4⟩ := ints_row hown (by omega)
  have HGB := Lib.hid (show g ≠ wz.heap.size by omega)
  have HG3 := Lib.hid hg3
  have HBU3 := Lib.hid (Lib.IsBuilderF.of (isBuilder_below HBU.out hb3))
  have HW3 := Lib.hid (HW1.out.trans (hb3.mono HW1.out.size))
  clear hb3 c0 c1 HBU hown hg1 hg3 hlt2
  have HG4 := Lib.hid (fun (u : World) (hu : u.heap[g]? = some (.cells cur 3 (0, 0))) (k : Nat) (hk : k < M) => hg4 u hu k (D k) (HDA.out k (by have := HM0.out; omega)))
  rw [← HM0.out] at hg2 ⊢
  clear hg4
  go_wp2_with fail
  go_loopw [12, 13, 32] (fun _ _ i wr => ∃ k : Nat, k ≤ M ∧ i = .int .i64 k ∧ Lib.IsBuilderF 52 5 wz.heap.size wz.heap.size (Lib.byteCells (upto F k)) wr ∧ wr.heap[g]? = some (.cells cur 3 (0, 0)) ∧ Below wz.heap.size wz wr) (fun _ _ i _ => M - (intOf i).toNat)
  case atStart => exact ⟨0, by omega, rfl, HBU3.out, HG3.out, HW3.out⟩
  case round =>
    clear HBU3 HW3 HG3
    obtain ⟨k, hk, rfl, hbu, hgk, hbel⟩ := hrel
    have HBU := Lib.hid hbu
    have HW := Lib.hid hbel
    have HG := Lib.hid hgk
    clear hbu hbel hgk
    by_cases hlt : k < M
    · have hc := HG4.out wr HG.out k hlt
      obtain ⟨e1, e2, e3, e4, e5⟩ := HWR.out k hlt
      obtain ⟨P, hP⟩ : ∃ P, P = tx (F k) := ⟨_, rfl⟩
      have hPs : P.size = N := by rw [hP]; exact HFL.out k hlt
      have hnx : upto F (k + 1) = upto F k ++ P.data.toList := by rw [hP]; rfl
      have hsz : (upto F k).length + P.size ≤ 140737488355328 := by have := HUL.out k hk; have := HPL.out k hk; omega
      have hT := piece_cut sig (N * k) N (N * (k + 1)) (Nat.mul_succ _ _)
      obtain ⟨T, hTT⟩ : ∃ T, T = sig.extract (N * k) (N * (k + 1)) := ⟨_, rfl⟩
      rw [← hTT] at hT
      have hcut := hTT.symm
      have hzr := HW.out
      have RR1 := Lib.hid (fun (u : World) (q : Below wr.heap.size wr u) => RR.out k hlt T P hT hP u (HC0.out u (hzr.trans (q.mono hzr.size))).2.2)
      have HC1 := Lib.hid (fun (u : World) (q : Below wr.heap.size wr u) => HC0.out u (hzr.trans (q.mono hzr.size)))
      have HNX := Lib.hid hnx
      have HSZ := Lib.hid hsz
      clear hT hTT hP hPs hnx hsz hzr
      generalize D k = dk at *
      obtain ⟨a, ha⟩ : ∃ a, a = N * k := ⟨_, rfl⟩
      obtain ⟨b, hb⟩ : ∃ b, b = N * (k + 1) := ⟨_, rfl⟩
      rw [← ha] at e1 e4 hcut
      rw [← hb] at e2 e4 e5 hcut
      have e6 : (0 : Int) ≤ (a : Int) := by omega
      have e7 : (0 : Int) ≤ (b : Int) := by omega
      have e8 : (a : Int).toNat = a := by omega
      have e9 : (b : Int).toNat = b := by omega
      clear ha hb
      go_upto_region 7 with (fail)
      clear hc
      refine Steady.region 18 (by kernel_rfl) (by kernel_rfl) (fun u => Below wr.heap.size wr u) ((Below.refl _ _).drew) ?_
      simp only [List.take_succ_cons, List.take_zero, List.drop_succ_cons, List.drop_zero]
      refine Steady.take ?_ rfl (by intro u hu; obtain ⟨c0, c1, -⟩ := HC1.out u hu; go_simp; with_reducible rfl) ?_
      simp only [Act.put, List.setIfInBounds_toArray, List.set_cons_zero, List.set_cons_succ]
      refine Steady.take ?_ rfl (by intro u hu; go_simp; with_reducible rfl) ?_
      simp only [Act.put, List.setIfInBounds_toArray, List.set_cons_zero, List.set_cons_succ]
      refine Steady.take ?_ rfl (by intro u hu; go_simp; with_reducible rfl) ?_
      simp only [Act.put, List.setIfInBounds_toArray, List.set_cons_zero, List.set_cons_succ]
      refine Steady.take ?_ rfl (by intro u hu; go_simp; with_reducible rfl) ?_
      simp only [Act.put, List.setIfInBounds_toArray, List.set_cons_zero, List.set_cons_succ]
      refine Steady.take ?_ rfl (by intro u hu; go_simp; with_reducible rfl) ?_
      simp only [Act.put, List.setIfInBounds_toArray, List.set_cons_zero, List.set_cons_succ]
      refine Steady.take ?_ rfl (by intro u hu; go_simp; with_reducible rfl) ?_
      simp only [Act.put, List.setIfInBounds_toArray, List.set_cons_zero, List.set_cons_succ]
      refine Steady.take ?_ rfl (by intro u hu; go_simp; with_reducible rfl) ?_
      simp only [Act.put, List.setIfInBounds_toArray, List.set_cons_zero, List.set_cons_succ]
      refine Steady.take ?_ rfl (by intro u hu; go_simp; with_reducible rfl) ?_
      simp only [Act.put, List.setIfInBounds_toArray, List.set_cons_zero, List.set_cons_succ]
      refine Steady.take ?_ rfl (by intro u hu; obtain ⟨c0, c1, -⟩ := HC1.out u hu; go_simp; with_reducible rfl) ?_
      simp only [Act.put, List.setIfInBounds_toArray, List.set_cons_zero, List.set_cons_succ]
      refine Steady.take ?_ rfl (by intro u hu; go_simp; with_reducible rfl) ?_
      simp only [Act.put, List.setIfInBounds_toArray, List.set_cons_zero, List.set_cons_succ]
      refine Steady.take ?_ rfl (by intro u hu; go_simp; with_reducible rfl) ?_
      simp only [Act.put, List.setIfInBounds_toArray, List.set_cons_zero, List.set_cons_succ]
      refine Steady.take ?_ rfl (by intro u hu; go_simp; with_reducible rfl) ?_
      simp only [Act.put, List.setIfInBounds_toArray, List.set_cons_zero, List.set_cons_succ]
      refine Steady.take ?_ rfl (by intro u hu; obtain ⟨c0, c1, -⟩ := HC1.out u hu; go_simp; with_reducible rfl) ?_
      simp only [Act.put, List.setIfInBounds_toArray, List.set_cons_zero, List.set_cons_succ]
      refine Steady.take ?_ rfl (by intro u hu; go_simp; with_reducible rfl) ?_
      simp only [Act.put, List.setIfInBounds_toArray, List.set_cons_zero, List.set_cons_succ]
      refine Steady.take ?_ rfl (by intro u hu; go_simp; with_reducible rfl) ?_
      simp only [Act.put, List.setIfInBounds_toArray, List.set_cons_zero, List.set_cons_succ]
      refine Steady.take ?_ rfl (by intro u hu; go_simp; with_reducible rfl) ?_
      simp only [Act.put, List.setIfInBounds_toArray, List.set_cons_zero, List.set_cons_succ]
      refine Steady.take ?_ rfl (by intro u hu; go_simp; with_reducible rfl) ?_
      simp only [Act.put, List.setIfInBounds_toArray, List.set_cons_zero, List.set_cons_succ]
      refine Steady.call _ _ _ rfl ?_ (keptIf RR1.out) ?_
      · intro u
        go_simp
      simp only [Act.put, List.setIfInBounds_toArray, List.set_cons_zero, List.set_cons_succ]
      refine Steady.nil ?_
      intro w5 hb5
      have HBU5 := Lib.hid (Use.builderF_below HBU.out hb5)
      have HW5 := Lib.hid (HW.out.trans (hb5.mono HW.out.size))
      have HG5 := Lib.hid ((hb5.block g (Array.getElem?_eq_some_iff.1 HG.out).1).trans HG.out)
      clear hb5 e1 e2 e3 e4 e5 e6 e7 e8 e9 hcut
      go_wp2_with fail
      refine (Use.write_k wz.heap.size wz.heap.size (upto F k) _ _ HBU5.out HSZ.out HW5.out.size).mono ?_
      rintro e w6 ⟨rfl, hbu6, hb6, ho6⟩
      rw [← HNX.out] at hbu6
      have HBU6 := Lib.hid hbu6
      have HW6 := Lib.hid (HW5.out.trans hb6)
      have HG6 := Lib.hid (Use.kept_block ho6 HG5.out HGB.out (by decide))
      clear hbu6 hb6 ho6
      go_wp2
      go_roundw
      case rel => exact ⟨k + 1, by omega, by go_num, HBU6.out, HG6.out, HW6.out⟩
      case measure => simp [intOf]; omega
    · obtain rfl : k = M := by omega
      have RS := Lib.hid (fun (u : World) (q : Below wz.heap.size wr u ∧ Lib.IsBuilderF 52 5 wz.heap.size wz.heap.size (Lib.byteCells (upto F k)) u) =>
        (Use.string_f wz.heap.size wz.heap.size (upto F k) u q.2 (HW.out.trans q.1).size).mono (fun e w' (y : e = .returned (.string ⟨(upto F k).toArray⟩) ∧ _) => (⟨y.1, q.1.trans y.2.2, y.2.1⟩ : e = .returned (.string (tx (upto F k))) ∧ (Below wz.heap.size wr w' ∧ Lib.IsBuilderF 52 5 wz.heap.size wz.heap.size (Lib.byteCells (upto F k)) w'))))
      have HZU := Lib.hid (fun (u : World) (q : Below wz.heap.size wr u) => HW.out.trans q)
      have HST := Lib.hid (show Below wz.heap.size wr wr.drew ∧ Lib.IsBuilderF 52 5 wz.heap.size wz.heap.size (Lib.byteCells (upto F k)) wr.drew from ⟨(Below.refl _ _).drew, Use.builderF_below HBU.out (Below.refl _ _).drew⟩)
      generalize tx (upto F k) = E at *
      go_upto_region 9 with (fail)
      refine Steady.region 4 (by kernel_rfl) (by kernel_rfl) (fun u => Below wz.heap.size wr u ∧ Lib.IsBuilderF 52 5 wz.heap.size wz.heap.size (Lib.byteCells (upto F k)) u) HST.out ?_
      simp only [List.take_succ_cons, List.take_zero, List.drop_succ_cons, List.drop_zero]
      refine Steady.take ?_ rfl (by intro u hu; obtain ⟨c0, c1, -⟩ := HC0.out u (HZU.out u hu.1); go_simp; with_reducible rfl) ?_
      simp only [Act.put, List.setIfInBounds_toArray, List.set_cons_zero, List.set_cons_succ]
      refine Steady.take ?_ rfl (by intro u hu; go_simp; with_reducible rfl) ?_
      simp only [Act.put, List.setIfInBounds_toArray, List.set_cons_zero, List.set_cons_succ]
      refine Steady.take ?_ rfl (by intro u hu; go_simp; with_reducible rfl) ?_
      simp only [Act.put, List.setIfInBounds_toArray, List.set_cons_zero, List.set_cons_succ]
      refine Steady.call _ _ _ rfl ?_ (id RS.out) ?_
      · intro u
        go_simp
      simp only [Act.put, List.setIfInBounds_toArray, List.set_cons_zero, List.set_cons_succ]
      refine Steady.nil ?_
      intro w5 hb5
      have HZ5 := Lib.hid (HZU.out w5 hb5.1)
      clear hb5
      go_wp2_with fail
      refine (RT.out _ (HC0.out _ HZ5.out).2.2).mono ?_
      rintro e w6 ⟨rfl, hb6⟩
      have HZ6 := Lib.hid (HB0.out.trans ((HZ5.out.trans (hb6.mono HZ5.out.size)).mono HB0.out.size))
      clear hb6
      go_wp2
      go_ret
      exact ⟨rfl, HZ6.out⟩
end Go.Proofs.YtjhilaiilckalaaDoor.Chn
