/-
  Sign of package chains answers what the plain mathematics of the text Chn says, and leaves all memory that was there as it was. Conditions: seed and room have together no more than 2^36 bytes, the constant table of package digest lies as the program's text lays it.
-/
import Derived.Test.YtjhilaiilckalaaDoorChnLeaf
import Derived.Test.YtjhilaiilckalaaDoorChnDig
import Derived.Test.YtjhilaiilckalaaDoorUseK
namespace Go.Proofs.YtjhilaiilckalaaDoor.Chn
open Go.RowKit Mur Sha
set_option maxRecDepth 100000

/-- A row of ints that a call has made: its block, and its cells wherever that block stands. -/
theorem ints_row {w : World} {base n : Nat} {v : Value} {l : List Nat} (h : w.ownsRow base 3 1 v n (Ints.intsV l)) (hn : 0 < n) :
    ∃ g c cur, v = .slice (some ⟨g, 0, none⟩) n c ∧ base ≤ g ∧ n ≤ c ∧ w.heap[g]? = some (.cells cur 3 (0, 0)) ∧ ∀ w' : World, w'.heap[g]? = some (.cells cur 3 (0, 0)) → ∀ (i x : Nat), l[i]? = some x → w'.cell? ⟨g, i, none⟩ = some (.int .i64 (x : Int)) := by
  obtain ⟨hl, h2⟩ := h
  rcases h2 with ⟨-, h0⟩ | ⟨g, cap, cur, rfl, h1, h2, h3, h4⟩
  · omega
  · refine ⟨g, cap, cur, rfl, h1, h3, h2, fun w' hw i x hx => ?_⟩
    have hown : w'.ownsRow base 3 1 (.slice (some ⟨g, 0, none⟩) n cap) n (Ints.intsV l) := ⟨hl, .inr ⟨g, cap, cur, rfl, h1, hw, h3, h4⟩⟩
    exact Strs.own_cell hown i _ (Ints.intsV_at hx)

theorem sign_no (n h : Int) (hr : ¬ Right n h) (seed room d : ByteArray) (leaf : Int) (w : World) :
    Calls Tryd.prog 19 #[.agg #[.int .i64 n, .int .i64 h], .string seed, .string room, .int .i64 leaf, .string d] w fun e w' => e = .returned (.string ⟨#[]⟩) ∧ Below w.heap.size w w' := by
  have R1 := Lib.hid (fun u => digits_no n h hr d u)
  clear hr
  have hB0 := (Below.refl w.heap.size w).alloc (Nat.le_refl _) (.cells #[.int .i64 n, .int .i64 h] 23)
  have hc0 : (w.alloc (.cells #[.int .i64 n, .int .i64 h] 23)).cell? ⟨w.heap.size, 0, none⟩ = some (.int .i64 n) := by simp
  have hc1 : (w.alloc (.cells #[.int .i64 n, .int .i64 h] 23)).cell? ⟨w.heap.size, 1, none⟩ = some (.int .i64 h) := by simp
  have hlt : w.heap.size < (w.alloc (.cells #[.int .i64 n, .int .i64 h] 23)).heap.size := by simp
  go_enter Tryd.func19, Tryd.ntmps19
  go_upto_region 1 with (fail)
  generalize w.alloc (.cells #[.int .i64 n, .int .i64 h] 23) = wz at *
  go_upto_region 2 with (fail)
  have HBU := Lib.hid (Use.builder_new wz.heap.size wz.heap.size _ (Nat.le_refl _) (_root_.Go.heap_alloc_new wz (.cells #[.pointer none, .slice none 0 0] 52)))
  have hw1 := (Below.refl wz.heap.size wz).alloc (Nat.le_refl _) (.cells #[.pointer none, .slice none 0 0] 52)
  generalize wz.alloc (.cells #[.pointer none, .slice none 0 0] 52) = w2 at *
  have c0 := (hw1.cell (p := ⟨w.heap.size, 0, none⟩) hlt).trans hc0
  have c1 := (hw1.cell (p := ⟨w.heap.size, 1, none⟩) hlt).trans hc1
  have HB0 := Lib.hid hB0
  have HW1 := Lib.hid hw1
  clear hB0 hc0 hc1 hlt hw1
  go_wp2_with fail
  refine (R1.out _).mono ?_
  rintro e w3 ⟨rfl, hb3⟩
  have HBU3 := Lib.hid (isBuilder_below HBU.out hb3)
  have HW3 := Lib.hid (HW1.out.trans (hb3.mono HW1.out.size))
  clear hb3 c0 c1 HBU HW1
  go_wp2_with fail
  go_loopw [12, 13, 19] (fun _ _ i wr => i = .int .i64 0 ∧ wr = w3) (fun _ _ _ _ => 0)
  case atStart => exact ⟨rfl, rfl⟩
  case round =>
    obtain ⟨rfl, rfl⟩ := hrel
    go_wp2_with fail
    refine (Use.string_any wz.heap.size wz.heap.size _ _ HBU3.out HW3.out.size).mono ?_
    rintro e w4 ⟨rfl, hb4⟩
    have HW4 := Lib.hid (HB0.out.trans ((HW3.out.trans hb4).mono HB0.out.size))
    clear hb4
    go_wp2
    go_ret
    exact ⟨rfl, HW4.out⟩

set_option maxHeartbeats 3200000 in
theorem sign_any (N : Nat) (h : Int) (seed room d : ByteArray) (leaf : Int) (V : ByteArray) (w : World) (hr : Right (N : Int) h) (hs : seed.size + room.size ≤ 68719476736) (hV : V = tx (sign N seed.data.toList room.data.toList leaf d.data.toList)) (hk : Consts w) :
    Calls Tryd.prog 19 #[.agg #[.int .i64 (N : Int), .int .i64 h], .string seed, .string room, .int .i64 leaf, .string d] w fun e w' => e = .returned (.string V) ∧ Below w.heap.size w w' := by
  have R1 := Lib.hid (fun u => digits_any N h d u hr)
  have hN : N ≤ 32 := by have := hr.2.1; omega
  have hl := signP_length N seed.data.toList room.data.toList leaf d.data.toList hN
  have RB := Lib.hid (fun (c : Nat) (T : ByteArray) (hT : T = tx (begins N seed.data.toList leaf (c : Int))) (u : World) (hu : Consts u) => begin_any N h seed leaf (c : Int) T u hN (by omega) hT hu)
  have RR := Lib.hid (fun (c : Nat) (T P : ByteArray) (hT : T = tx (begins N seed.data.toList leaf (c : Int))) (hP : P = tx (signP N seed.data.toList room.data.toList leaf d.data.toList c)) (u : World) (hu : Consts u) =>
    run_any N h room T leaf (c : Int) 0 (dig N d.data.toList c : Int) P u hr (by rw [hT]; have := begins_length N seed.data.toList leaf (c : Int) hN; show room.size + (begins N seed.data.toList leaf (c : Int)).length ≤ _; omega) (by rw [hP, hT]; rfl) hu)
  have hdl := fun c hc => dig_le N d.data.toList c hc
  obtain ⟨F, hF⟩ : ∃ F, F = signP N seed.data.toList room.data.toList leaf d.data.toList := ⟨_, rfl⟩
  rw [← hF] at hl RR
  have hul := upto_length F N hl
  have hVF : V = tx (upto F (2 * N + 3)) := by rw [hV, sign, ← hF]
  have hda := fun c hc => dig_at N d.data.toList c hc
  generalize dig N d.data.toList = D at *
  generalize digs N d.data.toList = L at *
  have HDA := Lib.hid hda
  have HVF := Lib.hid hVF
  have HUL := Lib.hid hul
  have HFL := Lib.hid hl
  clear hV hs hF hr hl hul hda hVF hdl
  have hB0 := (Below.refl w.heap.size w).alloc (Nat.le_refl _) (.cells #[.int .i64 (N : Int), .int .i64 h] 23)
  have hc0 : (w.alloc (.cells #[.int .i64 (N : Int), .int .i64 h] 23)).cell? ⟨w.heap.size, 0, none⟩ = some (.int .i64 (N : Int)) := by simp
  have hc1 : (w.alloc (.cells #[.int .i64 (N : Int), .int .i64 h] 23)).cell? ⟨w.heap.size, 1, none⟩ = some (.int .i64 h) := by simp
  have hlt : w.heap.size < (w.alloc (.cells #[.int .i64 (N : Int), .int .i64 h] 23)).heap.size := by simp
  go_enter Tryd.func19, Tryd.ntmps19
  go_upto_region 1 with (fail)
  generalize w.alloc (.cells #[.int .i64 (N : Int), .int .i64 h] 23) = wz at *
  have HC := Lib.hid (fun (u : World) (q : Below wz.heap.size wz u) => (⟨(q.cell (p := ⟨w.heap.size, 0, none⟩) hlt).trans hc0, (q.cell (p := ⟨w.heap.size, 1, none⟩) hlt).trans hc1, hk.below hk.1 (hB0.trans (q.mono hB0.size))⟩ : u.cell? ⟨w.heap.size, 0, none⟩ = some (.int .i64 (N : Int)) ∧ u.cell? ⟨w.heap.size, 1, none⟩ = some (.int .i64 h) ∧ Consts u))
  have HB0 := Lib.hid hB0
  clear hB0 hc0 hc1 hlt hk
  go_upto_region 2 with (fail)
  have HBU := Lib.hid (Use.builder_new wz.heap.size wz.heap.size _ (Nat.le_refl _) (_root_.Go.heap_alloc_new wz (.cells #[.pointer none, .slice none 0 0] 52)))
  have hlt2 : wz.heap.size < (wz.alloc (.cells #[.pointer none, .slice none 0 0] 52)).heap.size := by simp
  have HW1 := Lib.hid ((Below.refl wz.heap.size wz).alloc (Nat.le_refl _) (.cells #[.pointer none, .slice none 0 0] 52))
  generalize wz.alloc (.cells #[.pointer none, .slice none 0 0] 52) = w2 at *
  obtain ⟨c0, c1, -⟩ := HC.out _ HW1.out
  go_wp2_with fail
  refine (R1.out _).mono ?_
  rintro e w3 ⟨v, rfl, hown, hb3⟩
  obtain ⟨g, cp, cur, rfl, hg1, hg2, hg3, hg4⟩ := ints_row hown (by omega)
  have HGB := Lib.hid (show g ≠ wz.heap.size by omega)
  have HG3 := Lib.hid hg3
  have HBU3 := Lib.hid (Lib.IsBuilderF.of (isBuilder_below HBU.out hb3))
  have HW3 := Lib.hid (HW1.out.trans (hb3.mono HW1.out.size))
  clear hb3 c0 c1 HBU hown hg1 hg3 hlt2
  obtain ⟨M, hM⟩ : ∃ M, M = 2 * N + 3 := ⟨_, rfl⟩
  have hM67 : M ≤ 67 := by omega
  have hpl := fun k (hk : k ≤ M) => pieces_le N k hN (by omega)
  have HPL := Lib.hid hpl
  have HG4 := Lib.hid (fun (u : World) (hu : u.heap[g]? = some (.cells cur 3 (0, 0))) (k : Nat) (hk : k < M) => hg4 u hu k (D k) (HDA.out k (by omega)))
  rw [← hM] at hg2 HVF ⊢
  clear hM hpl hg4
  go_wp2_with fail
  go_loopw [12, 13, 19] (fun _ _ i wr => ∃ k : Nat, k ≤ M ∧ i = .int .i64 k ∧ Lib.IsBuilderF 52 5 wz.heap.size wz.heap.size (Lib.byteCells (upto F k)) wr ∧ wr.heap[g]? = some (.cells cur 3 (0, 0)) ∧ Below wz.heap.size wz wr) (fun _ _ i _ => M - (intOf i).toNat)
  case atStart => exact ⟨0, by omega, rfl, HBU3.out, HG3.out, HW3.out⟩
  case round =>
    clear HBU3 HW3 HG3
    obtain ⟨k, hk, rfl, hbu, hgk, hbel⟩ := hrel
    have HBU := Lib.hid hbu
    have HW := Lib.hid hbel
    have HG := Lib.hid hgk
    clear hbu hbel hgk
    by_cases hlt : k < M
    · have hc := HG4.out wr HG.out k hlt
      obtain ⟨T, hT⟩ : ∃ T, T = tx (begins N seed.data.toList leaf (k : Int)) := ⟨_, rfl⟩
      obtain ⟨P, hP⟩ : ∃ P, P = tx (F k) := ⟨_, rfl⟩
      have hPs : P.size = N := by rw [hP]; exact HFL.out k
      have hnx : upto F (k + 1) = upto F k ++ P.data.toList := by rw [hP]; rfl
      have hsz : (upto F k).length + P.size ≤ 140737488355328 := by have := HUL.out k; have := HPL.out k hk; omega
      have hzr := HW.out
      have RB1 := Lib.hid (fun (u : World) (q : Below wr.heap.size wr u) => RB.out k T hT u (HC.out u (hzr.trans (q.mono hzr.size))).2.2)
      have RR1 := Lib.hid (fun (u : World) (q : Below wr.heap.size wr u) => RR.out k T P hT hP u (HC.out u (hzr.trans (q.mono hzr.size))).2.2)
      have HC1 := Lib.hid (fun (u : World) (q : Below wr.heap.size wr u) => HC.out u (hzr.trans (q.mono hzr.size)))
      have HNX := Lib.hid hnx
      have HSZ := Lib.hid hsz
      clear hT hP hPs hnx hsz hzr
      generalize D k = dk at *
      go_upto_region 5 with (fail)
      clear hc
      refine Steady.region 12 (by kernel_rfl) (by kernel_rfl) (fun u => Below wr.heap.size wr u) ((Below.refl _ _).drew) ?_
      simp only [List.take_succ_cons, List.take_zero, List.drop_succ_cons, List.drop_zero]
      refine Steady.take ?_ rfl (by intro u hu; obtain ⟨c0, c1, -⟩ := HC1.out u hu; go_simp; with_reducible rfl) ?_
      simp only [Act.put, List.setIfInBounds_toArray, List.set_cons_zero, List.set_cons_succ]
      refine Steady.take ?_ rfl (by intro u hu; go_simp; with_reducible rfl) ?_
      simp only [Act.put, List.setIfInBounds_toArray, List.set_cons_zero, List.set_cons_succ]
      refine Steady.take ?_ rfl (by intro u hu; go_simp; with_reducible rfl) ?_
      simp only [Act.put, List.setIfInBounds_toArray, List.set_cons_zero, List.set_cons_succ]
      refine Steady.take ?_ rfl (by intro u hu; go_simp; with_reducible rfl) ?_
      simp only [Act.put, List.setIfInBounds_toArray, List.set_cons_zero, List.set_cons_succ]
      refine Steady.take ?_ rfl (by intro u hu; go_simp; with_reducible rfl) ?_
      simp only [Act.put, List.setIfInBounds_toArray, List.set_cons_zero, List.set_cons_succ]
      refine Steady.take ?_ rfl (by intro u hu; go_simp; with_reducible rfl) ?_
      simp only [Act.put, List.setIfInBounds_toArray, List.set_cons_zero, List.set_cons_succ]
      refine Steady.take ?_ rfl (by intro u hu; obtain ⟨c0, c1, -⟩ := HC1.out u hu; go_simp; with_reducible rfl) ?_
      simp only [Act.put, List.setIfInBounds_toArray, List.set_cons_zero, List.set_cons_succ]
      refine Steady.take ?_ rfl (by intro u hu; go_simp; with_reducible rfl) ?_
      simp only [Act.put, List.setIfInBounds_toArray, List.set_cons_zero, List.set_cons_succ]
      refine Steady.take ?_ rfl (by intro u hu; go_simp; with_reducible rfl) ?_
      simp only [Act.put, List.setIfInBounds_toArray, List.set_cons_zero, List.set_cons_succ]
      refine Steady.take ?_ rfl (by intro u hu; go_simp; with_reducible rfl) ?_
      simp only [Act.put, List.setIfInBounds_toArray, List.set_cons_zero, List.set_cons_succ]
      refine Steady.call _ _ _ rfl ?_ (keptIf RB1.out) ?_
      · intro u
        go_simp
      simp only [Act.put, List.setIfInBounds_toArray, List.set_cons_zero, List.set_cons_succ]
      refine Steady.call _ _ _ rfl ?_ (keptIf RR1.out) ?_
      · intro u
        go_simp
      simp only [Act.put, List.setIfInBounds_toArray, List.set_cons_zero, List.set_cons_succ]
      refine Steady.nil ?_
      intro w5 hb5
      have HBU5 := Lib.hid (Use.builderF_below HBU.out hb5)
      have HW5 := Lib.hid (HW.out.trans (hb5.mono HW.out.size))
      have HG5 := Lib.hid ((hb5.block g (Array.getElem?_eq_some_iff.1 HG.out).1).trans HG.out)
      clear hb5
      go_wp2_with fail
      refine (Use.write_k wz.heap.size wz.heap.size (upto F k) _ _ HBU5.out HSZ.out HW5.out.size).mono ?_
      rintro e w6 ⟨rfl, hbu6, hb6, ho6⟩
      rw [← HNX.out] at hbu6
      have HBU6 := Lib.hid hbu6
      have HW6 := Lib.hid (HW5.out.trans hb6)
      have HG6 := Lib.hid (Use.kept_block ho6 HG5.out HGB.out (by decide))
      clear hbu6 hb6 ho6
      go_wp2
      go_roundw
      case rel => exact ⟨k + 1, by omega, by go_num, HBU6.out, HG6.out, HW6.out⟩
      case measure => simp [intOf]; omega
    · obtain rfl : k = M := by omega
      go_wp2_with fail
      refine (Use.string_f wz.heap.size wz.heap.size _ _ HBU.out HW.out.size).mono ?_
      rintro e w4 ⟨rfl, -, hb4⟩
      have HW4 := Lib.hid (HB0.out.trans ((HW.out.trans hb4).mono HB0.out.size))
      clear hb4
      have hV := HVF.out
      subst hV
      go_wp2
      go_ret
      exact ⟨rfl, HW4.out⟩
end Go.Proofs.YtjhilaiilckalaaDoor.Chn
