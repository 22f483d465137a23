/-
  paired of package grove answers what the plain mathematics of the text Grv says, in a row of its own, and leaves all memory that was there as it was. Conditions: those that it names; the constant table of package digest lies as the program's text lays it.
-/
import Derived.Test.YtncafbejgidliaaDoorGrvA
import Derived.Test.YtncafbejgidliaaDoorStrA
namespace Go.Proofs.YtncafbejgidliaaDoor.Grv
open Go.RowKit Mur Sha Chn
set_option maxRecDepth 100000

/-- A row of m texts of which the first k are there. -/
def rowK (F : Nat → List UInt8) (m k : Nat) : List ByteArray := (List.range m).map fun i => if i < k then tx (F i) else ⟨#[]⟩
theorem rowK_length (F : Nat → List UInt8) (m k : Nat) : (rowK F m k).length = m := by simp [rowK]
theorem rowK_at (F : Nat → List UInt8) (m k i : Nat) (h : i < m) (hk : i < k) : (rowK F m k)[i]? = some (tx (F i)) := by simp [rowK, h, hk]
theorem rowK_zero (F : Nat → List UInt8) (m : Nat) : Strs.strsV (rowK F m 0) = List.replicate m (.string ⟨#[]⟩) := by
  apply List.ext_getElem (by simp [rowK, Strs.strsV])
  intro i h1 h2
  simp [rowK, Strs.strsV]
theorem rowK_set (F : Nat → List UInt8) (m k : Nat) : (Strs.strsV (rowK F m k)).set k (.string (tx (F k))) = Strs.strsV (rowK F m (k + 1)) := by
  apply List.ext_getElem (by simp [rowK, Strs.strsV])
  intro i h1 h2
  rw [List.getElem_set]
  by_cases e : k = i
  · subst e
    simp [rowK, Strs.strsV]
  · simp only [e, if_false, rowK, Strs.strsV, List.getElem_map, List.getElem_range]
    by_cases h : i < k
    · rw [if_pos h, if_pos (by omega)]
    · rw [if_neg h, if_neg (by omega)]
theorem made_strs (w : World) (n : Nat) : Row (w.alloc (.cells (madeCells #[.string ⟨#[]⟩] n) 9)) w.heap.size (List.replicate n (.string ⟨#[]⟩)) := by
  refine ⟨by simp, fun i v hv => ⟨?_, by simp⟩⟩
  rw [World.cell?_alloc_new]
  rw [← toList_madeCells_one] at hv
  simpa using hv
theorem row_cell {w : World} {g : Nat} {l : List ByteArray} (h : Row w g (Strs.strsV l)) {i : Nat} {x : ByteArray} (hi : l[i]? = some x) : w.cell? ⟨g, i, none⟩ = some (.string x) := h.cell (Strs.strsV_at hi)

set_option maxHeartbeats 3200000 in
theorem paired_any (N z f m : Nat) (h : Int) (room : ByteArray) (b cap : Nat) (G : Nat → List UInt8) (w : World) (hN : N ≤ 32) (hz : z ≤ 100) (hf : f + 2 * m ≤ 1000000) (hs : room.size ≤ 68719476736) (hG : ∀ i, i < 2 * m → (G i).length ≤ 1000000) (hb : b < w.heap.size)
    (hc : ∀ i, i < 2 * m → w.cell? ⟨b, i, none⟩ = some (.string (tx (G i)))) (F : Nat → List UInt8) (hF : ∀ i, i < m → F i = asOneT N room.data.toList z (f + 2 * i) (G (2 * i)) (G (2 * i + 1))) (hk : Consts w) :
    Calls Tryd.prog 21 #[.agg #[.int .i64 (N : Int), .int .i64 h], .string room, .int .i64 (z : Int), .int .i64 (f : Int), .slice (some ⟨b, 0, none⟩) (2 * m) cap] w fun e w' => ∃ g, e = .returned (.slice (some ⟨g, 0, none⟩) m m) ∧ w.heap.size ≤ g ∧ Row w' g (Strs.strsV (rowK F m m)) ∧ Below w.heap.size w w' := by
  have RA := Lib.hid (fun (i : Nat) (hi : i < m) (x y V : ByteArray) (hx : x = tx (G (2 * i))) (hy : y = tx (G (2 * i + 1))) (hV : V = tx (F i)) (u : World) (hu : Consts u) =>
    asOne_any N z (f + 2 * i) h room x y V u hN hz (by omega) (by
      have h1 := hG (2 * i) (by omega)
      have h2 := hG (2 * i + 1) (by omega)
      have e1 : x.size = (G (2 * i)).length := by rw [hx]; rfl
      have e2 : y.size = (G (2 * i + 1)).length := by rw [hy]; rfl
      omega) (by rw [hV, hF i hi, hx, hy]) hu)
  have HCE := Lib.hid hc
  have hm0 : m ≤ 500000 := by omega
  have HFB := Lib.hid hf
  obtain ⟨M, hM⟩ : ∃ M, M = 2 * m := ⟨_, rfl⟩
  have HM := Lib.hid hM
  have hq : (M : Int) / 2 = (m : Int) := by omega
  rw [← hM]
  clear hc hG hF hf hM hs
  have hmk : ∀ u : World, (Instr.makeSlice 36 (.int .i64 (m : Int)) (.int .i64 (m : Int))).run Tryd.prog u = .ok (.slice (some ⟨u.heap.size, 0, none⟩) m m) (u.alloc (.cells (madeCells #[.string ⟨#[]⟩] m) 9)) := fun u => Strs.make_str u m (by omega)
  go_enter Tryd.func21, Tryd.ntmps21
  go_upto_region 2 with (fail)
  clear hmk hq
  have hB0 := ((Below.refl w.heap.size w).alloc (Nat.le_refl _) (.cells #[.int .i64 (N : Int), .int .i64 h] 23)).alloc (by simp) (.cells (madeCells #[.string ⟨#[]⟩] m) 9)
  have hc0 : ((w.alloc (.cells #[.int .i64 (N : Int), .int .i64 h] 23)).alloc (.cells (madeCells #[.string ⟨#[]⟩] m) 9)).cell? ⟨w.heap.size, 0, none⟩ = some (.int .i64 (N : Int)) := by rw [World.cell?_alloc_lt _ _ _ (by simp)]; simp
  have hc1 : ((w.alloc (.cells #[.int .i64 (N : Int), .int .i64 h] 23)).alloc (.cells (madeCells #[.string ⟨#[]⟩] m) 9)).cell? ⟨w.heap.size, 1, none⟩ = some (.int .i64 h) := by rw [World.cell?_alloc_lt _ _ _ (by simp)]; simp
  have hrow0 := made_strs (w.alloc (.cells #[.int .i64 (N : Int), .int .i64 h] 23)) m
  rw [← rowK_zero F m] at hrow0
  have hlt : w.heap.size + 1 < ((w.alloc (.cells #[.int .i64 (N : Int), .int .i64 h] 23)).alloc (.cells (madeCells #[.string ⟨#[]⟩] m) 9)).heap.size := by simp
  have hge : (w.alloc (.cells #[.int .i64 (N : Int), .int .i64 h] 23)).heap.size = w.heap.size + 1 := by simp
  simp only [hge] at hrow0 ⊢
  clear hge
  generalize (w.alloc (.cells #[.int .i64 (N : Int), .int .i64 h] 23)).alloc (.cells (madeCells #[.string ⟨#[]⟩] m) 9) = wz at *
  have hl0 : w.heap.size < wz.heap.size := by omega
  have HC := Lib.hid (fun (u : World) (q : Below (w.heap.size + 1) wz u) => (⟨(q.cell (p := ⟨w.heap.size, 0, none⟩) (Nat.lt_succ_self _)).trans hc0, (q.cell (p := ⟨w.heap.size, 1, none⟩) (Nat.lt_succ_self _)).trans hc1, hk.below hk.1 (hB0.trans (q.mono (Nat.le_succ _))), fun i hi => ((hB0.trans (q.mono (Nat.le_succ _))).cell (p := ⟨b, i, none⟩) hb).trans (HCE.out i hi)⟩ :
    u.cell? ⟨w.heap.size, 0, none⟩ = some (.int .i64 (N : Int)) ∧ u.cell? ⟨w.heap.size, 1, none⟩ = some (.int .i64 h) ∧ Consts u ∧ ∀ i, i < 2 * m → u.cell? ⟨b, i, none⟩ = some (.string (tx (G i)))))
  have HB0 := Lib.hid hB0
  have HROW0 := Lib.hid hrow0
  have HLT := Lib.hid hlt
  clear hB0 hc0 hc1 hk hb HCE hrow0 hl0 hlt
  go_wp2_with fail
  go_loopw [12, 19] (fun _ i wr => ∃ k : Nat, k ≤ m ∧ i = .int .i64 k ∧ Row wr (w.heap.size + 1) (Strs.strsV (rowK F m k)) ∧ Below (w.heap.size + 1) wz wr) (fun _ i _ => m - (intOf i).toNat)
  case atStart => exact ⟨0, by omega, rfl, HROW0.out, Below.refl _ _⟩
  case round =>
    clear HROW0
    obtain ⟨k, hk, rfl, hrow, hbel⟩ := hrel
    have HROW := Lib.hid hrow
    have HW := Lib.hid hbel
    clear hrow hbel
    by_cases hlt : k < m
    · obtain ⟨j, hj⟩ : ∃ j, j = 2 * k := ⟨_, rfl⟩
      obtain ⟨j1, hj1⟩ : ∃ j1, j1 = j + 1 := ⟨_, rfl⟩
      obtain ⟨n, hn⟩ : ∃ n, n = f + j := ⟨_, rfl⟩
      obtain ⟨x, hx⟩ : ∃ x, x = tx (G j) := ⟨_, rfl⟩
      obtain ⟨y, hy⟩ : ∃ y, y = tx (G j1) := ⟨_, rfl⟩
      obtain ⟨V, hV⟩ : ∃ V, V = tx (F k) := ⟨_, rfl⟩
      have RA1 := RA.out k hlt x y V (by rw [hx, hj]) (by rw [hy, hj1, hj]) hV
      rw [← hj, ← hn] at RA1
      have hst : (Strs.strsV (rowK F m k)).set k (.string V) = Strs.strsV (rowK F m (k + 1)) := by rw [hV]; exact rowK_set F m k
      have hM := HM.out
      have hFB := HFB.out
      have hw1 : IntKind.i64.wrap (2 * (k : Int)) = (j : Int) := by rw [IntKind.wrap_i64]; omega
      have hw2 : IntKind.i64.wrap ((f : Int) + (j : Int)) = (n : Int) := by rw [IntKind.wrap_i64]; omega
      have hw3 : IntKind.i64.wrap ((j : Int) + 1) = (j1 : Int) := by rw [IntKind.wrap_i64]; omega
      have hl1 : (j : Int) < (M : Int) := by omega
      have hl2 : (j1 : Int) < (M : Int) := by omega
      have hg1 : (0 : Int) ≤ (j : Int) := by omega
      have hg2 : (0 : Int) ≤ (j1 : Int) := by omega
      have hli : (k : Int) < (m : Int) := by omega
      have hCE := fun (u : World) (q : Below wr.heap.size wr u) => HC.out u (HW.out.trans (q.mono (by have := HW.out.size; have := HROW.out.lt; omega)))
      have HC1 := Lib.hid (fun (u : World) (q : Below wr.heap.size wr u) => (⟨(hCE u q).1, (hCE u q).2.1⟩ : u.cell? ⟨w.heap.size, 0, none⟩ = some (.int .i64 (N : Int)) ∧ u.cell? ⟨w.heap.size, 1, none⟩ = some (.int .i64 h)))
      have HCX := Lib.hid (fun (u : World) (q : Below wr.heap.size wr u) => show u.cell? ⟨b, j, none⟩ = some (.string x) from by rw [hx]; exact (hCE u q).2.2.2 j (by omega))
      have HCY := Lib.hid (fun (u : World) (q : Below wr.heap.size wr u) => show u.cell? ⟨b, j1, none⟩ = some (.string y) from by rw [hy]; exact (hCE u q).2.2.2 j1 (by omega))
      have RA2 := Lib.hid (fun (u : World) (q : Below wr.heap.size wr u) => RA1 u (hCE u q).2.2.1)
      have HST := Lib.hid hst
      have HRL := Lib.hid HROW.out.lt
      clear hj hj1 hn hx hy hV RA1 hst hM hFB hCE
      go_upto_region 5 with (fail)
      refine Steady.region 23 (by kernel_rfl) (by kernel_rfl) (fun u => Below wr.heap.size wr u) ((Below.refl _ _).drew) ?_
      simp only [List.take_succ_cons, List.take_zero, List.drop_succ_cons, List.drop_zero]
      refine Steady.take ?_ rfl (by intro u hu; go_simp; with_reducible rfl) ?_
      simp only [Act.put, List.setIfInBounds_toArray, List.set_cons_zero, List.set_cons_succ]
      refine Steady.take ?_ rfl (by intro u hu; go_simp; with_reducible rfl) ?_
      simp only [Act.put, List.setIfInBounds_toArray, List.set_cons_zero, List.set_cons_succ]
      refine Steady.take ?_ rfl (by intro u hu; obtain ⟨c0, c1⟩ := HC1.out u hu; go_simp; with_reducible rfl) ?_
      simp only [Act.put, List.setIfInBounds_toArray, List.set_cons_zero, List.set_cons_succ]
      refine Steady.take ?_ rfl (by intro u hu; go_simp; with_reducible rfl) ?_
      simp only [Act.put, List.setIfInBounds_toArray, List.set_cons_zero, List.set_cons_succ]
      refine Steady.take ?_ rfl (by intro u hu; go_simp; with_reducible rfl) ?_
      simp only [Act.put, List.setIfInBounds_toArray, List.set_cons_zero, List.set_cons_succ]
      refine Steady.take ?_ rfl (by intro u hu; go_simp; with_reducible rfl) ?_
      simp only [Act.put, List.setIfInBounds_toArray, List.set_cons_zero, List.set_cons_succ]
      refine Steady.take ?_ rfl (by intro u hu; go_simp; with_reducible rfl) ?_
      simp only [Act.put, List.setIfInBounds_toArray, List.set_cons_zero, List.set_cons_succ]
      refine Steady.take ?_ rfl (by intro u hu; go_simp; with_reducible rfl) ?_
      simp only [Act.put, List.setIfInBounds_toArray, List.set_cons_zero, List.set_cons_succ]
      refine Steady.take ?_ rfl (by intro u hu; go_simp; with_reducible rfl) ?_
      simp only [Act.put, List.setIfInBounds_toArray, List.set_cons_zero, List.set_cons_succ]
      refine Steady.take ?_ rfl (by intro u hu; go_simp; with_reducible rfl) ?_
      simp only [Act.put, List.setIfInBounds_toArray, List.set_cons_zero, List.set_cons_succ]
      refine Steady.take ?_ rfl (by intro u hu; go_simp; with_reducible rfl) ?_
      simp only [Act.put, List.setIfInBounds_toArray, List.set_cons_zero, List.set_cons_succ]
      refine Steady.take ?_ rfl (by intro u hu; go_simp; with_reducible rfl) ?_
      simp only [Act.put, List.setIfInBounds_toArray, List.set_cons_zero, List.set_cons_succ]
      refine Steady.take ?_ rfl (by intro u hu; go_simp; with_reducible rfl) ?_
      simp only [Act.put, List.setIfInBounds_toArray, List.set_cons_zero, List.set_cons_succ]
      refine Steady.take ?_ rfl (by intro u hu; have cx := HCX.out u hu; go_simp; with_reducible rfl) ?_
      simp only [Act.put, List.setIfInBounds_toArray, List.set_cons_zero, List.set_cons_succ]
      refine Steady.take ?_ rfl (by intro u hu; go_simp; with_reducible rfl) ?_
      simp only [Act.put, List.setIfInBounds_toArray, List.set_cons_zero, List.set_cons_succ]
      refine Steady.take ?_ rfl (by intro u hu; go_simp; with_reducible rfl) ?_
      simp only [Act.put, List.setIfInBounds_toArray, List.set_cons_zero, List.set_cons_succ]
      refine Steady.take ?_ rfl (by intro u hu; go_simp; with_reducible rfl) ?_
      simp only [Act.put, List.setIfInBounds_toArray, List.set_cons_zero, List.set_cons_succ]
      refine Steady.take ?_ rfl (by intro u hu; go_simp; with_reducible rfl) ?_
      simp only [Act.put, List.setIfInBounds_toArray, List.set_cons_zero, List.set_cons_succ]
      refine Steady.take ?_ rfl (by intro u hu; go_simp; with_reducible rfl) ?_
      simp only [Act.put, List.setIfInBounds_toArray, List.set_cons_zero, List.set_cons_succ]
      refine Steady.take ?_ rfl (by intro u hu; go_simp; with_reducible rfl) ?_
      simp only [Act.put, List.setIfInBounds_toArray, List.set_cons_zero, List.set_cons_succ]
      refine Steady.take ?_ rfl (by intro u hu; have cy := HCY.out u hu; go_simp; with_reducible rfl) ?_
      simp only [Act.put, List.setIfInBounds_toArray, List.set_cons_zero, List.set_cons_succ]
      refine Steady.call _ _ _ rfl ?_ (keptIf RA2.out) ?_
      · intro u
        go_simp
      simp only [Act.put, List.setIfInBounds_toArray, List.set_cons_zero, List.set_cons_succ]
      refine Steady.take ?_ rfl (by intro u hu; go_simp; with_reducible rfl) ?_
      simp only [Act.put, List.setIfInBounds_toArray, List.set_cons_zero, List.set_cons_succ]
      refine Steady.nil ?_
      intro w5 hb5
      have hrow5 := HROW.out.below HRL.out hb5
      have hcs := hrow5.cell (i := k) (v := .string (if k < k then tx (F k) else ⟨#[]⟩)) (by simp [rowK, Strs.strsV, hlt])
      have hfs := hrow5.free (i := k) (by rw [Strs.strsV_length, rowK_length]; exact hlt)
      have hset := hrow5.set k (.string V)
      rw [HST.out] at hset
      have HS := Lib.hid hset
      have HW5 := Lib.hid ((HW.out.trans (hb5.mono (Nat.le_of_lt HRL.out))).setCell (p := ⟨w.heap.size + 1, k, none⟩) (Nat.le_refl _) (.string V))
      clear hrow5 hset hb5
      go_wp2
      go_roundw
      case rel => exact ⟨k + 1, by omega, by go_num, HS.out, HW5.out⟩
      case measure => simp [intOf]; omega
    · obtain rfl : k = m := by omega
      go_wp2
      go_ret
      exact ⟨w.heap.size + 1, rfl, by omega, HROW.out, HB0.out.trans (HW.out.mono (Nat.le_succ _))⟩
end Go.Proofs.YtncafbejgidliaaDoor.Grv
