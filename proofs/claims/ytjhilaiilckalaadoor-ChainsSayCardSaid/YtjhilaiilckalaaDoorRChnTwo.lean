/-
  The document's own answers for Sign, Leaf and Found of layer 7 answer what the plain mathematics of the text Chn says; and each function of package chains answers as the document's own answer to it, whatever the shape. Conditions: those that each lemma names.
-/
import Derived.Test.YtjhilaiilckalaaDoorRChnOne
import Derived.Test.YtjhilaiilckalaaDoorStrA
import Derived.IntWalk
import Derived.Test.YtjhilaiilckalaaDoorChnAwake
namespace Go.Proofs.YtjhilaiilckalaaDoor.RefChn
open Go.RowKit Mur Sha Chn
set_option maxRecDepth 100000

theorem sign_no (n h : Int) (hr : ¬ Right n h) (seed room d : ByteArray) (leaf : Int) (w : World) :
    Calls Tryd.prog 20 #[.agg #[.int .i64 n, .int .i64 h], .string seed, .string room, .int .i64 leaf, .string d] w fun e w' => e = .returned (.string ⟨#[]⟩) ∧ Below w.heap.size w w' := by
  have R1 := Lib.hid (fun u => digits_no n h hr d u)
  clear hr
  have hB0 := (Below.refl w.heap.size w).alloc (Nat.le_refl _) (.cells #[.int .i64 n, .int .i64 h] 23)
  go_enter Tryd.func20, Tryd.ntmps20
  go_wp2_with fail
  refine (R1.out _).mono ?_
  rintro e w3 ⟨rfl, hb3⟩
  have HW3 := Lib.hid (hB0.trans (hb3.mono hB0.size))
  clear hb3 hB0
  go_wp2_with fail
  go_loopw [11, 12, 13, 14, 19] (fun x _ _ _ i wr => x = .string ⟨#[]⟩ ∧ i = .int .i64 0 ∧ wr = w3) (fun _ _ _ _ _ _ => 0)
  case atStart => exact ⟨rfl, rfl, rfl⟩
  case round =>
    obtain ⟨rfl, rfl, rfl⟩ := hrel
    go_wp2
    go_ret
    exact ⟨rfl, HW3.out⟩

set_option maxHeartbeats 3200000 in
theorem sign_any (N : Nat) (h : Int) (seed room d : ByteArray) (leaf : Int) (V : ByteArray) (w : World) (hr : Right (N : Int) h) (hs : seed.size + room.size ≤ 400000) (hds : d.size ≤ 1099511627776) (hV : V = tx (sign N seed.data.toList room.data.toList leaf d.data.toList)) :
    Calls Tryd.prog 20 #[.agg #[.int .i64 (N : Int), .int .i64 h], .string seed, .string room, .int .i64 leaf, .string d] w fun e w' => e = .returned (.string V) ∧ Below w.heap.size w w' := by
  have R1 := Lib.hid (fun u => digits_any N h d u hr hds)
  have hN : N ≤ 32 := by have := hr.2.1; omega
  have hl := signP_length N seed.data.toList room.data.toList leaf d.data.toList hN
  have RB := Lib.hid (fun (c : Nat) (T : ByteArray) (hT : T = tx (begins N seed.data.toList leaf (c : Int))) (u : World) => begin_any N h seed leaf (c : Int) T u hN (by omega) hT)
  have RR := Lib.hid (fun (c : Nat) (T P : ByteArray) (hT : T = tx (begins N seed.data.toList leaf (c : Int))) (hP : P = tx (signP N seed.data.toList room.data.toList leaf d.data.toList c)) (u : World) =>
    run_any N h room T leaf (c : Int) 0 (dig N d.data.toList c : Int) P u hr (by rw [hT]; have := begins_length N seed.data.toList leaf (c : Int) hN; show room.size + (begins N seed.data.toList leaf (c : Int)).length ≤ _; omega) (by rw [hP, hT]; rfl))
  obtain ⟨F, hF⟩ : ∃ F, F = signP N seed.data.toList room.data.toList leaf d.data.toList := ⟨_, rfl⟩
  rw [← hF] at hl RR
  have hul := upto_length F N hl
  have hVF : V = tx (upto F (2 * N + 3)) := by rw [hV, sign, ← hF]
  have hda := fun c hc => dig_at N d.data.toList c hc
  generalize dig N d.data.toList = D at *
  generalize digs N d.data.toList = L at *
  have HDA := Lib.hid hda
  have HVF := Lib.hid hVF
  have HUL := Lib.hid hul
  have HFL := Lib.hid hl
  clear hV hs hF hr hl hul hda hVF hds
  have hB0 := (Below.refl w.heap.size w).alloc (Nat.le_refl _) (.cells #[.int .i64 (N : Int), .int .i64 h] 23)
  have hc0 : (w.alloc (.cells #[.int .i64 (N : Int), .int .i64 h] 23)).cell? ⟨w.heap.size, 0, none⟩ = some (.int .i64 (N : Int)) := by simp
  have hc1 : (w.alloc (.cells #[.int .i64 (N : Int), .int .i64 h] 23)).cell? ⟨w.heap.size, 1, none⟩ = some (.int .i64 h) := by simp
  have hlt : w.heap.size < (w.alloc (.cells #[.int .i64 (N : Int), .int .i64 h] 23)).heap.size := by simp
  go_enter Tryd.func20, Tryd.ntmps20
  go_upto_region 1 with (fail)
  generalize w.alloc (.cells #[.int .i64 (N : Int), .int .i64 h] 23) = wz at *
  have HC := Lib.hid (fun (u : World) (q : Below wz.heap.size wz u) => (⟨(q.cell (p := ⟨w.heap.size, 0, none⟩) hlt).trans hc0, (q.cell (p := ⟨w.heap.size, 1, none⟩) hlt).trans hc1⟩ : u.cell? ⟨w.heap.size, 0, none⟩ = some (.int .i64 (N : Int)) ∧ u.cell? ⟨w.heap.size, 1, none⟩ = some (.int .i64 h)))
  have HB0 := Lib.hid hB0
  clear hB0 hc0 hc1 hlt
  obtain ⟨c0, c1⟩ := HC.out _ (Below.refl _ _)
  go_wp2_with fail
  refine (R1.out _).mono ?_
  rintro e w3 ⟨v, rfl, hown, hb3⟩
  obtain ⟨g, cp, cur, rfl, hg1, hg2, hg3, hg4⟩ := ints_row hown (by omega)
  have HG3 := Lib.hid hg3
  have HW3 := Lib.hid hb3
  clear hb3 c0 c1 hown hg1 hg3
  obtain ⟨M, hM⟩ : ∃ M, M = 2 * N + 3 := ⟨_, rfl⟩
  have hM67 : M ≤ 67 := by omega
  have hpl := fun k (hk : k ≤ M) => pieces_le N k hN (by omega)
  have HPL := Lib.hid hpl
  have HG4 := Lib.hid (fun (u : World) (hu : u.heap[g]? = some (.cells cur 3 (0, 0))) (k : Nat) (hk : k < M) => hg4 u hu k (D k) (HDA.out k (by omega)))
  rw [← hM] at hg2 HVF ⊢
  clear hM hpl hg4
  go_wp2_with fail
  go_loopw [11, 12, 13, 14, 19] (fun x _ _ _ i wr => ∃ k : Nat, k ≤ M ∧ i = .int .i64 k ∧ x = .string (tx (upto F k)) ∧ wr.heap[g]? = some (.cells cur 3 (0, 0)) ∧ Below wz.heap.size wz wr) (fun _ _ _ _ i _ => M - (intOf i).toNat)
  case atStart => exact ⟨0, by omega, rfl, rfl, HG3.out, HW3.out⟩
  case round =>
    clear HW3 HG3
    obtain ⟨k, hk, rfl, rfl, hgk, hbel⟩ := hrel
    have HW := Lib.hid hbel
    have HG := Lib.hid hgk
    clear hbel hgk
    by_cases hlt : k < M
    · have hc := HG4.out wr HG.out k hlt
      obtain ⟨T, hT⟩ : ∃ T, T = tx (begins N seed.data.toList leaf (k : Int)) := ⟨_, rfl⟩
      obtain ⟨P, hP⟩ : ∃ P, P = tx (F k) := ⟨_, rfl⟩
      have hPs : P.size = N := by rw [hP]; exact HFL.out k
      obtain ⟨E, hE⟩ : ∃ E, E = tx (upto F k) := ⟨_, rfl⟩
      have hnx : tx (upto F (k + 1)) = E ++ P := by rw [hP, hE]; exact upto_next F k
      have hEs : E.size = N * k := by rw [hE]; exact HUL.out k
      have hk2 := HPL.out k hk
      have n2 : ¬ 9223372036854775807 < E.size + P.size := by omega
      have hzr := HW.out
      have RB1 := Lib.hid (fun (u : World) => RB.out k T hT u)
      have RR1 := Lib.hid (fun (u : World) => RR.out k T P hT hP u)
      have HNX := Lib.hid hnx
      rw [← hE]
      clear hT hP hPs hnx hE hEs hk2 hzr
      generalize D k = dk at *
      go_upto_region 6 with (fail)
      clear hc
      have hw5 := HW.out.alloc HW.out.size (.cells #[.int .i64 leaf, .int .i64 (k : Int)] 27)
      have hp0 : (wr.alloc (.cells #[.int .i64 leaf, .int .i64 (k : Int)] 27)).cell? ⟨wr.heap.size, 0, none⟩ = some (.int .i64 leaf) := by simp
      have hp1 : (wr.alloc (.cells #[.int .i64 leaf, .int .i64 (k : Int)] 27)).cell? ⟨wr.heap.size, 1, none⟩ = some (.int .i64 (k : Int)) := by simp
      have hpl : wr.heap.size < (wr.alloc (.cells #[.int .i64 leaf, .int .i64 (k : Int)] 27)).heap.size := by simp
      have hg5 := ((((Below.refl wr.heap.size wr).alloc (Nat.le_refl _) (.cells #[.int .i64 leaf, .int .i64 (k : Int)] 27)).block g (Array.getElem?_eq_some_iff.1 HG.out).1).trans HG.out)
      generalize wr.alloc (.cells #[.int .i64 leaf, .int .i64 (k : Int)] 27) = ws at *
      generalize wr.heap.size = np at *
      have HC1 := Lib.hid (fun (u : World) (q : Below ws.heap.size ws u) => HC.out u (hw5.trans (q.mono hw5.size)))
      have HP1 := Lib.hid (fun (u : World) (q : Below ws.heap.size ws u) => (⟨(q.cell (p := ⟨np, 0, none⟩) hpl).trans hp0, (q.cell (p := ⟨np, 1, none⟩) hpl).trans hp1⟩ : u.cell? ⟨np, 0, none⟩ = some (.int .i64 leaf) ∧ u.cell? ⟨np, 1, none⟩ = some (.int .i64 (k : Int))))
      have HW5 := Lib.hid hw5
      have HG5 := Lib.hid hg5
      clear hw5 hg5 hp0 hp1 hpl
      refine Steady.region 11 (by kernel_rfl) (by kernel_rfl) (fun u => Below ws.heap.size ws u) ((Below.refl _ _).drew) ?_
      simp only [List.take_succ_cons, List.take_zero, List.drop_succ_cons, List.drop_zero]
      refine Steady.take ?_ rfl (by intro u hu; go_simp; with_reducible rfl) ?_
      simp only [Act.put, List.setIfInBounds_toArray, List.set_cons_zero, List.set_cons_succ]
      refine Steady.take ?_ rfl (by intro u hu; obtain ⟨c0, c1⟩ := HC1.out u hu; go_simp; with_reducible rfl) ?_
      simp only [Act.put, List.setIfInBounds_toArray, List.set_cons_zero, List.set_cons_succ]
      refine Steady.take ?_ rfl (by intro u hu; go_simp; with_reducible rfl) ?_
      simp only [Act.put, List.setIfInBounds_toArray, List.set_cons_zero, List.set_cons_succ]
      refine Steady.take ?_ rfl (by intro u hu; obtain ⟨p0, p1⟩ := HP1.out u hu; go_simp; with_reducible rfl) ?_
      simp only [Act.put, List.setIfInBounds_toArray, List.set_cons_zero, List.set_cons_succ]
      refine Steady.take ?_ rfl (by intro u hu; go_simp; with_reducible rfl) ?_
      simp only [Act.put, List.setIfInBounds_toArray, List.set_cons_zero, List.set_cons_succ]
      refine Steady.take ?_ rfl (by intro u hu; obtain ⟨c0, c1⟩ := HC1.out u hu; go_simp; with_reducible rfl) ?_
      simp only [Act.put, List.setIfInBounds_toArray, List.set_cons_zero, List.set_cons_succ]
      refine Steady.take ?_ rfl (by intro u hu; go_simp; with_reducible rfl) ?_
      simp only [Act.put, List.setIfInBounds_toArray, List.set_cons_zero, List.set_cons_succ]
      refine Steady.take ?_ rfl (by intro u hu; obtain ⟨p0, p1⟩ := HP1.out u hu; go_simp; with_reducible rfl) ?_
      simp only [Act.put, List.setIfInBounds_toArray, List.set_cons_zero, List.set_cons_succ]
      refine Steady.call _ _ _ rfl ?_ (Steady.kept RB1.out) ?_
      · intro u
        go_simp
      simp only [Act.put, List.setIfInBounds_toArray, List.set_cons_zero, List.set_cons_succ]
      refine Steady.call _ _ _ rfl ?_ (Steady.kept RR1.out) ?_
      · intro u
        go_simp
      simp only [Act.put, List.setIfInBounds_toArray, List.set_cons_zero, List.set_cons_succ]
      refine Steady.take ?_ rfl (by intro u hu; go_simp; with_reducible rfl) ?_
      simp only [Act.put, List.setIfInBounds_toArray, List.set_cons_zero, List.set_cons_succ]
      refine Steady.nil ?_
      intro w6 hb6
      have HW6 := Lib.hid (HW5.out.trans (hb6.mono HW5.out.size))
      have HG6 := Lib.hid ((hb6.block g (Array.getElem?_eq_some_iff.1 HG5.out).1).trans HG5.out)
      clear hb6 n2
      go_wp2
      go_roundw
      case rel => exact ⟨k + 1, by omega, by go_num, by rw [HNX.out], HG6.out, HW6.out⟩
      case measure => simp [intOf]; omega
    · obtain rfl : k = M := by omega
      have HW4 := Lib.hid (HB0.out.trans (HW.out.mono HB0.out.size))
      have hV := HVF.out
      subst hV
      go_wp2
      go_ret
      exact ⟨rfl, HW4.out⟩
end Go.Proofs.YtjhilaiilckalaaDoor.RefChn

namespace Go.Proofs.YtjhilaiilckalaaDoor.Strs
open Go.RowKit Mur

theorem step_append_str {ops : Array Oper} {o : Oper} {a : Act} {K : Act → World → Prop} {Q : Exit → Act → World → Prop} {E : Prop} (hgd : o.guard = none) (s x : Operand)
    (ho : o.op = .call { callee := .builtin .append, args := #[s, x], argTypes := #[60, 60] }) (W : World) (y : ByteArray) (base n : Nat) (v : Value) (l : List ByteArray)
    (hs : a.eval s = v) (hx : a.eval x = .slice (some ⟨W.heap.size, 0, none⟩) 1 1) (hown : W.ownsRow base 9 1 v n (strsV l)) (hn : n ≤ 1000) (hbase : base ≤ W.heap.size)
    (h : ∀ v' w', w'.ownsRow base 9 1 v' (n + 1) (strsV (l ++ [y])) → (W.alloc (.cells #[.string y] 9)).grownBy w' v.ownBlock → K (a.put o.dst v') w') :
    if Region.wanted o (yielded ops a.tmps) = true then Oper.wp Tryd.prog o a (W.alloc (.cells #[.string y] 9)) K Q else E := by
  have hw : Region.wanted o (yielded ops a.tmps) = true := by simp [Region.wanted, hgd]
  rw [if_pos hw]
  obtain ⟨i0, hi, hz0, hz1, hz2⟩ := info_parts info_str
  obtain ⟨v', w', hr, h2, h3, h4⟩ := run_append_own (P := Tryd.prog) (w := W.alloc (.cells #[.string y] 9)) base 60 o.type 9 i0 (.string ⟨#[]⟩) 1 16 Tryd.underlying60 hi hz0 hz1 hz2 rfl (by decide) v n (strsV l) (hown.alloc _) ⟨W.heap.size, 0, none⟩ 1 1 (strsV [y]) rfl (fun j u hu => by rw [add_zero]; exact new_one W y _ j u hu) (strsV_one [y]) (by unfold maxLen; omega) (by omega) (Nat.le_trans hbase (by simp))
  unfold Oper.wp execOp
  simp only [ho, resolve, invoke, builtin, Sem.run_bind, Sem.run_pure, Result.andThen_ok, List.map_toArray, List.map_cons, List.map_nil, hs, hx, hr]
  rw [← strsV_append] at h2
  exact h v' w' h2 h3
end Go.Proofs.YtjhilaiilckalaaDoor.Strs

namespace Go.Proofs.YtjhilaiilckalaaDoor.RefChn
open Go.RowKit Mur Sha Chn
set_option maxRecDepth 100000

/-- A row of texts that a call has made: its block, and its cells. -/
theorem strs_row {w : World} {base n : Nat} {v : Value} {l : List ByteArray} (h : w.ownsRow base 9 1 v n (Strs.strsV l)) (hn : 0 < n) :
    ∃ g c, v = .slice (some ⟨g, 0, none⟩) n c ∧ g < w.heap.size ∧ ∀ (i : Nat) x, l[i]? = some x → w.cell? ⟨g, i, none⟩ = some (.string x) := by
  rcases Strs.own_cases h with ⟨-, h0, -⟩ | ⟨g, c, rfl, -, h2, -, -⟩
  · omega
  · exact ⟨g, c, rfl, h2, fun i x hx => Strs.own_cell h i _ (Strs.strsV_at hx)⟩

theorem leaf_no (n h : Int) (hr : ¬ Right n h) (seed room : ByteArray) (leaf : Int) (w : World) :
    Calls Tryd.prog 18 #[.agg #[.int .i64 n, .int .i64 h], .string seed, .string room, .int .i64 leaf] w fun e w' => e = .returned (.string ⟨#[]⟩) ∧ Below w.heap.size w w' := by
  have R1 := Lib.hid (fun u => right_no n h hr u)
  clear hr
  go_enter Tryd.func18, Tryd.ntmps18
  go_wp2_with fail
  refine (R1.out _).mono ?_
  rintro e w1 ⟨rfl, hb⟩
  have HB := Lib.hid (((Below.refl w.heap.size w).alloc (Nat.le_refl _) (.cells #[.int .i64 n, .int .i64 h] 23)).trans (hb.mono (by simp)))
  clear hb
  go_wp2
  go_ret
  exact ⟨rfl, HB.out⟩

set_option maxHeartbeats 3200000 in
theorem leaf_any (N : Nat) (h : Int) (seed room : ByteArray) (leaf : Int) (V : ByteArray) (w : World) (hr : Right (N : Int) h) (hs : seed.size + room.size ≤ 400000) (hV : V = tx (leafOf N seed.data.toList room.data.toList leaf)) :
    Calls Tryd.prog 18 #[.agg #[.int .i64 (N : Int), .int .i64 h], .string seed, .string room, .int .i64 leaf] w fun e w' => e = .returned (.string V) ∧ Below w.heap.size w w' := by
  have R1 := Lib.hid (fun u => right_yes N h hr u)
  have hN : N ≤ 32 := by have := hr.2.1; omega
  obtain ⟨M, hM⟩ : ∃ M, M = 2 * N + 3 := ⟨_, rfl⟩
  have hM67 : M ≤ 67 := by omega
  have hM0 : 0 < M := by omega
  have R2 := Lib.hid (show ∀ u, Calls Tryd.prog 11 #[.agg #[.int .i64 (N : Int), .int .i64 h]] u fun e w' => e = .returned (.int .i64 (M : Int)) ∧ Below u.heap.size u w' from fun u => by
    have := count_yes N h hr u
    rw [show (2 * (N : Int) + 3) = (M : Int) by omega] at this
    exact this)
  have hl := leafP_length N seed.data.toList room.data.toList leaf hN
  have RB := Lib.hid (fun (c : Nat) (T : ByteArray) (hT : T = tx (begins N seed.data.toList leaf (c : Int))) (u : World) => begin_any N h seed leaf (c : Int) T u hN (by omega) hT)
  have RR := Lib.hid (fun (c : Nat) (T P : ByteArray) (hT : T = tx (begins N seed.data.toList leaf (c : Int))) (hP : P = tx (leafP N seed.data.toList room.data.toList leaf c)) (u : World) =>
    run_any N h room T leaf (c : Int) 0 15 P u hr (by rw [hT]; have := begins_length N seed.data.toList leaf (c : Int) hN; show room.size + (begins N seed.data.toList leaf (c : Int)).length ≤ _; omega) (by rw [hP, hT]; rfl))
  obtain ⟨F, hF⟩ : ∃ F, F = leafP N seed.data.toList room.data.toList leaf := ⟨_, rfl⟩
  rw [← hF] at hl RR
  have RE := Lib.hid (fun (g cp : Nat) (u : World) (hg : g < u.heap.size) (hc : ∀ c, c < M → u.cell? ⟨g, c, none⟩ = some (.string (tx (F c)))) => ends_any N h room leaf F M V g cp u hN hM67 (fun c _ => hl c) (by omega) hg hc (by rw [hV, leafOf, ← hF, ← hM]))
  clear hV hs hF hr hM
  have hB0 := (Below.refl w.heap.size w).alloc (Nat.le_refl _) (.cells #[.int .i64 (N : Int), .int .i64 h] 23)
  have hc0 : (w.alloc (.cells #[.int .i64 (N : Int), .int .i64 h] 23)).cell? ⟨w.heap.size, 0, none⟩ = some (.int .i64 (N : Int)) := by simp
  have hc1 : (w.alloc (.cells #[.int .i64 (N : Int), .int .i64 h] 23)).cell? ⟨w.heap.size, 1, none⟩ = some (.int .i64 h) := by simp
  have hlt : w.heap.size < (w.alloc (.cells #[.int .i64 (N : Int), .int .i64 h] 23)).heap.size := by simp
  go_enter Tryd.func18, Tryd.ntmps18
  go_upto_region 1 with (fail)
  generalize w.alloc (.cells #[.int .i64 (N : Int), .int .i64 h] 23) = wz at *
  have HC := Lib.hid (fun (u : World) (q : Below wz.heap.size wz u) => (⟨(q.cell (p := ⟨w.heap.size, 0, none⟩) hlt).trans hc0, (q.cell (p := ⟨w.heap.size, 1, none⟩) hlt).trans hc1⟩ : u.cell? ⟨w.heap.size, 0, none⟩ = some (.int .i64 (N : Int)) ∧ u.cell? ⟨w.heap.size, 1, none⟩ = some (.int .i64 h)))
  have HB0 := Lib.hid hB0
  clear hB0 hc0 hc1 hlt
  obtain ⟨c0, c1⟩ := HC.out _ (Below.refl _ _)
  go_wp2_with fail
  refine (R1.out _).mono ?_
  rintro e w1 ⟨rfl, hb1⟩
  have HB1 := Lib.hid hb1
  clear hb1 c0 c1
  obtain ⟨c0, c1⟩ := HC.out _ HB1.out
  go_wp2_with fail
  refine (R2.out _).mono ?_
  rintro e w3 ⟨rfl, hb3⟩
  have HW3 := Lib.hid (HB1.out.trans (hb3.mono HB1.out.size))
  clear hb3 c0 c1 HB1
  have hown0 : w3.ownsRow wz.heap.size 9 1 (.slice none 0 0) 0 (Strs.strsV (pieces F 0)) := ⟨rfl, .inl ⟨rfl, rfl⟩⟩
  have HOWN0 := Lib.hid hown0
  clear hown0
  go_wp2_with fail
  go_loopw [9, 10, 11, 17] (fun v _ _ i wr => ∃ k : Nat, k ≤ M ∧ i = .int .i64 k ∧ wr.ownsRow wz.heap.size 9 1 v k (Strs.strsV (pieces F k)) ∧ Below wz.heap.size wz wr) (fun _ _ _ i _ => M - (intOf i).toNat)
  case atStart => exact ⟨0, by omega, rfl, HOWN0.out, HW3.out⟩
  case round =>
    clear HW3 HOWN0
    obtain ⟨k, hk, rfl, hown, hbel⟩ := hrel
    have HW := Lib.hid hbel
    have HOWN := Lib.hid hown
    clear hbel hown
    by_cases hlt : k < M
    · obtain ⟨T, hT⟩ : ∃ T, T = tx (begins N seed.data.toList leaf (k : Int)) := ⟨_, rfl⟩
      obtain ⟨P, hP⟩ : ∃ P, P = tx (F k) := ⟨_, rfl⟩
      have hnx : pieces F (k + 1) = pieces F k ++ [P] := by rw [hP]; exact pieces_next F k
      have RB1 := Lib.hid (fun (u : World) => RB.out k T hT u)
      have RR1 := Lib.hid (fun (u : World) => RR.out k T P hT hP u)
      have HNX := Lib.hid hnx
      clear hT hP hnx
      go_upto_region 8 with (fail)
      have hw5 := HW.out.alloc HW.out.size (.cells #[.int .i64 leaf, .int .i64 (k : Int)] 27)
      have hp0 : (wr.alloc (.cells #[.int .i64 leaf, .int .i64 (k : Int)] 27)).cell? ⟨wr.heap.size, 0, none⟩ = some (.int .i64 leaf) := by simp
      have hp1 : (wr.alloc (.cells #[.int .i64 leaf, .int .i64 (k : Int)] 27)).cell? ⟨wr.heap.size, 1, none⟩ = some (.int .i64 (k : Int)) := by simp
      have hpl : wr.heap.size < (wr.alloc (.cells #[.int .i64 leaf, .int .i64 (k : Int)] 27)).heap.size := by simp
      have hown5 := HOWN.out.alloc (.cells #[.int .i64 leaf, .int .i64 (k : Int)] 27)
      generalize wr.alloc (.cells #[.int .i64 leaf, .int .i64 (k : Int)] 27) = ws at *
      generalize wr.heap.size = np at *
      have HC1 := Lib.hid (fun (u : World) (q : Below ws.heap.size ws u) => HC.out u (hw5.trans (q.mono hw5.size)))
      have HP1 := Lib.hid (fun (u : World) (q : Below ws.heap.size ws u) => (⟨(q.cell (p := ⟨np, 0, none⟩) hpl).trans hp0, (q.cell (p := ⟨np, 1, none⟩) hpl).trans hp1⟩ : u.cell? ⟨np, 0, none⟩ = some (.int .i64 leaf) ∧ u.cell? ⟨np, 1, none⟩ = some (.int .i64 (k : Int))))
      have HW5 := Lib.hid hw5
      have HOWN5 := Lib.hid hown5
      clear hw5 hown5 hp0 hp1 hpl HW HOWN
      obtain ⟨c0, c1⟩ := HC1.out _ (Below.refl _ _).drew
      obtain ⟨p0, p1⟩ := HP1.out _ (Below.refl _ _).drew
      go_region_law ((first
        | (refine step_call rfl 31 Tryd.call31 #[.tmp 27, .tmp 28, .tmp 29] #[23, 9, 27] rfl #[.agg #[.int .i64 (N : Int), .int .i64 h], .string seed, .agg #[.int .i64 leaf, .int .i64 (k : Int)]] (by first | (simp [Act.eval]; done) | simp [Act.eval, Act.put]) _ _ (RB1.out _) ?_; intro w6 hb6; obtain ⟨c2, c3⟩ := HC1.out _ (((Below.refl _ _).drew).trans hb6); obtain ⟨p2, p3⟩ := HP1.out _ (((Below.refl _ _).drew).trans hb6))
        | (refine step_call rfl 16 Tryd.call16 #[.tmp 24, .tmp 25, .tmp 26, .const (.int .i64 0), .const (.int .i64 15), .tmp 30] #[23, 9, 27, 3, 3, 9] rfl #[.agg #[.int .i64 (N : Int), .int .i64 h], .string room, .agg #[.int .i64 leaf, .int .i64 (k : Int)], .int .i64 0, .int .i64 15, .string T] (by first | (simp [Act.eval]; done) | simp [Act.eval, Act.put]) _ _ (RR1.out _) ?_; intro w7 hb7)
        | (refine Strs.step_append_str (by rfl) _ _ (by rfl) w7 P wz.heap.size k _ (pieces F k) (by rfl) (by rfl) (Strs.own_below HOWN5.out (((Below.refl _ _).drew).trans (hb6.trans (hb7.mono hb6.size)))) (by omega) (by have := HW5.out.size; have := hb6.size; have := hb7.size; simp at *; omega) ?_; intro v' w8 hown8 hgrow8)))
      all_goals
        have hz7 : Below wz.heap.size wz w7 := HW5.out.drew.trans ((hb6.mono HW5.out.size).trans (hb7.mono (Nat.le_trans HW5.out.size hb6.size)))
        have HW8 := Lib.hid ((hz7.alloc hz7.size (.cells #[.string P] 9)).grown hgrow8 (Nat.le_trans hz7.size (by simp)) (fun j hj => (HOWN5.out.lt j hj).1))
        rw [← HNX.out] at hown8
        have HO8 := Lib.hid hown8
        clear hz7 hown8 hgrow8 hb6 hb7 c0 c1 c2 c3 p0 p1 p2 p3
        go_wp2
        go_roundw
        case rel => exact ⟨k + 1, by omega, by go_num, HO8.out, HW8.out⟩
        case measure => simp [intOf]; omega
    · obtain rfl : k = M := by omega
      obtain ⟨g, cp, rfl, hg1, hg2⟩ := strs_row HOWN.out hM0
      have hcell : ∀ c, c < k → wr.cell? ⟨g, c, none⟩ = some (.string (tx (F c))) := fun c hc => hg2 c _ (pieces_at F k c hc)
      have RE1 := Lib.hid (RE.out g cp wr hg1 hcell)
      clear hg1 hg2 hcell
      obtain ⟨c0, c1⟩ := HC.out _ HW.out
      go_wp2_with fail
      refine RE1.out.mono ?_
      rintro e w6 ⟨rfl, hb6⟩
      have HZ6 := Lib.hid (HB0.out.trans ((HW.out.trans (hb6.mono HW.out.size)).mono HB0.out.size))
      clear hb6 c0 c1
      go_wp2
      go_ret
      exact ⟨rfl, HZ6.out⟩
end Go.Proofs.YtjhilaiilckalaaDoor.RefChn

namespace Go.Proofs.YtjhilaiilckalaaDoor.RefChn
open Go.RowKit Mur Sha Chn
set_option maxRecDepth 100000

set_option maxHeartbeats 3200000 in
theorem found_no (n h : Int) (hr : ¬ Right n h) (room sig d : ByteArray) (leaf : Int) (w : World) :
    Calls Tryd.prog 22 #[.agg #[.int .i64 n, .int .i64 h], .string room, .int .i64 leaf, .string sig, .string d] w fun e w' => e = .returned (.string ⟨#[]⟩) ∧ Below w.heap.size w w' := by
  have R1 := Lib.hid (fun u => right_no n h hr u)
  clear hr
  have hB0 := (Below.refl w.heap.size w).alloc (Nat.le_refl _) (.cells #[.int .i64 n, .int .i64 h] 23)
  have hc0 : (w.alloc (.cells #[.int .i64 n, .int .i64 h] 23)).cell? ⟨w.heap.size, 0, none⟩ = some (.int .i64 n) := by simp
  have hc1 : (w.alloc (.cells #[.int .i64 n, .int .i64 h] 23)).cell? ⟨w.heap.size, 1, none⟩ = some (.int .i64 h) := by simp
  have hlt : w.heap.size < (w.alloc (.cells #[.int .i64 n, .int .i64 h] 23)).heap.size := by simp
  go_enter Tryd.func22, Tryd.ntmps22
  go_upto_region 1 with (fail)
  generalize w.alloc (.cells #[.int .i64 n, .int .i64 h] 23) = wz at *
  have HC := Lib.hid (fun (u : World) (q : Below wz.heap.size wz u) => (⟨(q.cell (p := ⟨w.heap.size, 0, none⟩) hlt).trans hc0, (q.cell (p := ⟨w.heap.size, 1, none⟩) hlt).trans hc1⟩ : u.cell? ⟨w.heap.size, 0, none⟩ = some (.int .i64 n) ∧ u.cell? ⟨w.heap.size, 1, none⟩ = some (.int .i64 h)))
  have HB0 := Lib.hid hB0
  clear hB0 hc0 hc1 hlt
  refine Steady.region 12 (by kernel_rfl) (by kernel_rfl) (fun u => Below wz.heap.size wz u) ((Below.refl _ _).drew) ?_
  simp only [List.take_succ_cons, List.take_zero, List.drop_succ_cons, List.drop_zero]
  refine Steady.take ?_ rfl (by intro u hu; obtain ⟨c0, c1⟩ := HC.out u hu; go_simp; with_reducible rfl) ?_
  simp only [Act.put, List.setIfInBounds_toArray, List.set_cons_zero, List.set_cons_succ]
  refine Steady.call _ _ _ rfl ?_ (Steady.kept R1.out) ?_
  · intro u
    go_simp
  simp only [Act.put, List.setIfInBounds_toArray, List.set_cons_zero, List.set_cons_succ]
  refine Steady.take ?_ rfl (by intro u hu; go_simp; with_reducible rfl) ?_
  simp only [Act.put, List.setIfInBounds_toArray, List.set_cons_zero, List.set_cons_succ]
  refine Steady.take ?_ rfl (by intro u hu; go_simp; with_reducible rfl) ?_
  simp only [Act.put, List.setIfInBounds_toArray, List.set_cons_zero, List.set_cons_succ]
  refine Steady.pass rfl ?_
  simp only [Act.put, List.setIfInBounds_toArray, List.set_cons_zero, List.set_cons_succ]
  refine Steady.pass rfl ?_
  simp only [Act.put, List.setIfInBounds_toArray, List.set_cons_zero, List.set_cons_succ]
  refine Steady.pass rfl ?_
  simp only [Act.put, List.setIfInBounds_toArray, List.set_cons_zero, List.set_cons_succ]
  refine Steady.pass rfl ?_
  simp only [Act.put, List.setIfInBounds_toArray, List.set_cons_zero, List.set_cons_succ]
  refine Steady.pass rfl ?_
  simp only [Act.put, List.setIfInBounds_toArray, List.set_cons_zero, List.set_cons_succ]
  refine Steady.pass rfl ?_
  simp only [Act.put, List.setIfInBounds_toArray, List.set_cons_zero, List.set_cons_succ]
  refine Steady.pass rfl ?_
  simp only [Act.put, List.setIfInBounds_toArray, List.set_cons_zero, List.set_cons_succ]
  refine Steady.pass rfl ?_
  simp only [Act.put, List.setIfInBounds_toArray, List.set_cons_zero, List.set_cons_succ]
  refine Steady.nil ?_
  intro w5 hb5
  have HB5 := Lib.hid (HB0.out.trans (hb5.mono HB0.out.size))
  clear hb5
  go_wp2
  go_ret
  exact ⟨rfl, HB5.out⟩

set_option maxHeartbeats 3200000 in
theorem found_other (N : Nat) (h : Int) (hr : Right (N : Int) h) (room sig d : ByteArray) (leaf : Int) (hsz : ¬ sig.size = N * (2 * N + 3)) (w : World) :
    Calls Tryd.prog 22 #[.agg #[.int .i64 (N : Int), .int .i64 h], .string room, .int .i64 leaf, .string sig, .string d] w fun e w' => e = .returned (.string ⟨#[]⟩) ∧ Below w.heap.size w w' := by
  have R1 := Lib.hid (fun u => right_yes N h hr u)
  have R2 := Lib.hid (fun u => count_yes N h hr u)
  have hN : N ≤ 32 := by have := hr.2.1; omega
  obtain ⟨A, hA⟩ : ∃ A, A = N * (2 * N + 3) := ⟨_, rfl⟩
  have hA2 : A ≤ 2144 := by rw [hA]; exact pieces_le N _ hN (Nat.le_refl _)
  have hw : IntKind.i64.wrap ((N : Int) * (2 * (N : Int) + 3)) = (A : Int) := by
    have e : (N : Int) * (2 * (N : Int) + 3) = ((N * (2 * N + 3) : Nat) : Int) := by push_cast; rfl
    rw [e, ← hA]
    exact IntWalk.i64_in _ (by omega)
  have hne : ((sig.size : Int) != (A : Int)) = true := by simp; omega
  clear hr hA hsz
  have hB0 := (Below.refl w.heap.size w).alloc (Nat.le_refl _) (.cells #[.int .i64 (N : Int), .int .i64 h] 23)
  have hc0 : (w.alloc (.cells #[.int .i64 (N : Int), .int .i64 h] 23)).cell? ⟨w.heap.size, 0, none⟩ = some (.int .i64 (N : Int)) := by simp
  have hc1 : (w.alloc (.cells #[.int .i64 (N : Int), .int .i64 h] 23)).cell? ⟨w.heap.size, 1, none⟩ = some (.int .i64 h) := by simp
  have hlt : w.heap.size < (w.alloc (.cells #[.int .i64 (N : Int), .int .i64 h] 23)).heap.size := by simp
  go_enter Tryd.func22, Tryd.ntmps22
  go_upto_region 1 with (fail)
  generalize w.alloc (.cells #[.int .i64 (N : Int), .int .i64 h] 23) = wz at *
  have HC := Lib.hid (fun (u : World) (q : Below wz.heap.size wz u) => (⟨(q.cell (p := ⟨w.heap.size, 0, none⟩) hlt).trans hc0, (q.cell (p := ⟨w.heap.size, 1, none⟩) hlt).trans hc1⟩ : u.cell? ⟨w.heap.size, 0, none⟩ = some (.int .i64 (N : Int)) ∧ u.cell? ⟨w.heap.size, 1, none⟩ = some (.int .i64 h)))
  have HB0 := Lib.hid hB0
  clear hB0 hc0 hc1 hlt
  refine Steady.region 12 (by kernel_rfl) (by kernel_rfl) (fun u => Below wz.heap.size wz u) ((Below.refl _ _).drew) ?_
  simp only [List.take_succ_cons, List.take_zero, List.drop_succ_cons, List.drop_zero]
  refine Steady.take ?_ rfl (by intro u hu; obtain ⟨c0, c1⟩ := HC.out u hu; go_simp; with_reducible rfl) ?_
  simp only [Act.put, List.setIfInBounds_toArray, List.set_cons_zero, List.set_cons_succ]
  refine Steady.call _ _ _ rfl ?_ (Steady.kept R1.out) ?_
  · intro u
    go_simp
  simp only [Act.put, List.setIfInBounds_toArray, List.set_cons_zero, List.set_cons_succ]
  refine Steady.take ?_ rfl (by intro u hu; go_simp; with_reducible rfl) ?_
  simp only [Act.put, List.setIfInBounds_toArray, List.set_cons_zero, List.set_cons_succ]
  refine Steady.take ?_ rfl (by intro u hu; go_simp; with_reducible rfl) ?_
  simp only [Act.put, List.setIfInBounds_toArray, List.set_cons_zero, List.set_cons_succ]
  refine Steady.take ?_ rfl (by intro u hu; go_simp; with_reducible rfl) ?_
  simp only [Act.put, List.setIfInBounds_toArray, List.set_cons_zero, List.set_cons_succ]
  refine Steady.take ?_ rfl (by intro u hu; go_simp; with_reducible rfl) ?_
  simp only [Act.put, List.setIfInBounds_toArray, List.set_cons_zero, List.set_cons_succ]
  refine Steady.take ?_ rfl (by intro u hu; go_simp; with_reducible rfl) ?_
  simp only [Act.put, List.setIfInBounds_toArray, List.set_cons_zero, List.set_cons_succ]
  refine Steady.take ?_ rfl (by intro u hu; obtain ⟨c0, c1⟩ := HC.out u hu; go_simp; with_reducible rfl) ?_
  simp only [Act.put, List.setIfInBounds_toArray, List.set_cons_zero, List.set_cons_succ]
  refine Steady.take ?_ rfl (by intro u hu; obtain ⟨c0, c1⟩ := HC.out u hu; go_simp; with_reducible rfl) ?_
  simp only [Act.put, List.setIfInBounds_toArray, List.set_cons_zero, List.set_cons_succ]
  refine Steady.call _ _ _ rfl ?_ (Steady.kept R2.out) ?_
  · intro u
    go_simp
  simp only [Act.put, List.setIfInBounds_toArray, List.set_cons_zero, List.set_cons_succ]
  refine Steady.take ?_ rfl (by intro u hu; go_simp; with_reducible rfl) ?_
  simp only [Act.put, List.setIfInBounds_toArray, List.set_cons_zero, List.set_cons_succ]
  refine Steady.take ?_ rfl (by intro u hu; go_simp; with_reducible rfl) ?_
  simp only [Act.put, List.setIfInBounds_toArray, List.set_cons_zero, List.set_cons_succ]
  refine Steady.nil ?_
  intro w5 hb5
  have HB5 := Lib.hid (HB0.out.trans (hb5.mono HB0.out.size))
  clear hb5
  go_wp2
  go_ret
  exact ⟨rfl, HB5.out⟩


set_option maxHeartbeats 3200000 in
theorem found_any (N : Nat) (h : Int) (room sig d : ByteArray) (leaf : Int) (V : ByteArray) (w : World) (hr : Right (N : Int) h) (hz : sig.size = N * (2 * N + 3)) (hs : room.size ≤ 400000) (hds : d.size ≤ 1099511627776) (hV : V = tx (found N room.data.toList leaf sig.data.toList d.data.toList)) :
    Calls Tryd.prog 22 #[.agg #[.int .i64 (N : Int), .int .i64 h], .string room, .int .i64 leaf, .string sig, .string d] w fun e w' => e = .returned (.string V) ∧ Below w.heap.size w w' := by
  have R1 := Lib.hid (fun u => right_yes N h hr u)
  have R2 := Lib.hid (fun u => count_yes N h hr u)
  have R3 := Lib.hid (fun u => digits_any N h d u hr hds)
  have hN : N ≤ 32 := by have := hr.2.1; omega
  obtain ⟨M, hM⟩ : ∃ M, M = 2 * N + 3 := ⟨_, rfl⟩
  have hM67 : M ≤ 67 := by omega
  have hMi : (2 * (N : Int) + 3) = (M : Int) := by omega
  have hpl := fun k (hk : k ≤ M) => pieces_le N k hN (by omega)
  have hmul := fun k (hk : k ≤ M) => show N * k ≤ N * M from Nat.mul_le_mul_left _ hk
  rw [← hM] at hz
  have hl := fun c (hc : c < M) => foundP_length N room.data.toList leaf sig.data.toList d.data.toList hN (by rw [← hM]; exact hz) c (by omega)
  have hpc := fun (c : Nat) (hc : c < M) => show ((sig.data.toList.drop (N * c)).take N).length = N from by
    have h1 := hmul (c + 1) hc
    rw [Nat.mul_succ] at h1
    have h2 : sig.data.toList.length = sig.size := rfl
    rw [List.length_take, List.length_drop, h2, hz]
    omega
  have RR := Lib.hid (fun (c : Nat) (hc : c < M) (T P : ByteArray) (hT : T = tx ((sig.data.toList.drop (N * c)).take N)) (hP : P = tx (foundP N room.data.toList leaf sig.data.toList d.data.toList c)) (u : World) =>
    run_any N h room T leaf (c : Int) (dig N d.data.toList c : Int) 15 P u hr (by rw [hT]; have := hpc c hc; show room.size + ((sig.data.toList.drop (N * c)).take N).length ≤ _; omega) (by rw [hP, hT]; rfl))
  obtain ⟨F, hF⟩ : ∃ F, F = foundP N room.data.toList leaf sig.data.toList d.data.toList := ⟨_, rfl⟩
  rw [← hF] at hl RR
  have hM0 : 0 < M := by omega
  have RE := Lib.hid (fun (g cp : Nat) (u : World) (hg : g < u.heap.size) (hc : ∀ c, c < M → u.cell? ⟨g, c, none⟩ = some (.string (tx (F c)))) => ends_any N h room leaf F M V g cp u hN hM67 (fun c hc => hl c hc) (by omega) hg hc (by rw [hV, found, ← hF, ← hM]))
  have hda := fun c hc => dig_at N d.data.toList c hc
  generalize dig N d.data.toList = D at *
  generalize digs N d.data.toList = L at *
  obtain ⟨A, hA⟩ : ∃ A, A = N * M := ⟨_, rfl⟩
  have hA2 : A ≤ 2144 := by rw [hA]; exact hpl M (Nat.le_refl _)
  have hwA : IntKind.i64.wrap ((N : Int) * (2 * (N : Int) + 3)) = (A : Int) := by
    have e : (N : Int) * (2 * (N : Int) + 3) = ((N * M : Nat) : Int) := by rw [hMi]; push_cast; rfl
    rw [e, ← hA]
    exact IntWalk.i64_in _ (by omega)
  have heq : ((sig.size : Int) != (A : Int)) = false := by simp; omega
  have HWR := Lib.hid (fun (k : Nat) (hk : k < M) => show IntKind.i64.wrap ((k : Int) * (N : Int)) = ((N * k : Nat) : Int) ∧ IntKind.i64.wrap (((k : Int) + 1) * (N : Int)) = ((N * (k + 1) : Nat) : Int) ∧ IntKind.i64.wrap ((k : Int) + 1) = (k : Int) + 1 ∧ ((N * k : Nat) : Int) ≤ ((N * (k + 1) : Nat) : Int) ∧ ((N * (k + 1) : Nat) : Int) ≤ (sig.size : Int) from by
    have h1 := hmul k (by omega)
    have h2 := hmul (k + 1) hk
    have h3 : N * (k + 1) = N * k + N := Nat.mul_succ _ _
    have h4 := hpl (k + 1) hk
    have e1 : (k : Int) * (N : Int) = ((N * k : Nat) : Int) := by rw [Int.mul_comm]; push_cast; rfl
    have e2 : ((k : Int) + 1) * (N : Int) = ((N * (k + 1) : Nat) : Int) := by rw [Int.mul_comm]; push_cast; rfl
    refine ⟨by rw [e1]; exact IntWalk.i64_in _ (by omega), by rw [e2]; exact IntWalk.i64_in _ (by omega), IntWalk.i64_in _ (by omega), by omega, by omega⟩)
  have HDA := Lib.hid hda
  have HFL := Lib.hid hl
  have HPL := Lib.hid hpl
  have HM0 := Lib.hid hM
  clear hV hs hF hr hl hda hz hA hmul hpl hpc hMi hM hds
  have hB0 := (Below.refl w.heap.size w).alloc (Nat.le_refl _) (.cells #[.int .i64 (N : Int), .int .i64 h] 23)
  have hc0 : (w.alloc (.cells #[.int .i64 (N : Int), .int .i64 h] 23)).cell? ⟨w.heap.size, 0, none⟩ = some (.int .i64 (N : Int)) := by simp
  have hc1 : (w.alloc (.cells #[.int .i64 (N : Int), .int .i64 h] 23)).cell? ⟨w.heap.size, 1, none⟩ = some (.int .i64 h) := by simp
  have hlt : w.heap.size < (w.alloc (.cells #[.int .i64 (N : Int), .int .i64 h] 23)).heap.size := by simp
  go_enter Tryd.func22, Tryd.ntmps22
  go_upto_region 1 with (fail)
  generalize w.alloc (.cells #[.int .i64 (N : Int), .int .i64 h] 23) = w00 at *
  have HC := Lib.hid (fun (u : World) (q : Below w00.heap.size w00 u) => (⟨(q.cell (p := ⟨w.heap.size, 0, none⟩) hlt).trans hc0, (q.cell (p := ⟨w.heap.size, 1, none⟩) hlt).trans hc1⟩ : u.cell? ⟨w.heap.size, 0, none⟩ = some (.int .i64 (N : Int)) ∧ u.cell? ⟨w.heap.size, 1, none⟩ = some (.int .i64 h)))
  have HB00 := Lib.hid hB0
  clear hB0 hc0 hc1 hlt
  refine Steady.region 12 (by kernel_rfl) (by kernel_rfl) (fun u => Below w00.heap.size w00 u) ((Below.refl _ _).drew) ?_
  simp only [List.take_succ_cons, List.take_zero, List.drop_succ_cons, List.drop_zero]
  refine Steady.take ?_ rfl (by intro u hu; obtain ⟨c0, c1⟩ := HC.out u hu; go_simp; with_reducible rfl) ?_
  simp only [Act.put, List.setIfInBounds_toArray, List.set_cons_zero, List.set_cons_succ]
  refine Steady.call _ _ _ rfl ?_ (Steady.kept R1.out) ?_
  · intro u
    go_simp
  simp only [Act.put, List.setIfInBounds_toArray, List.set_cons_zero, List.set_cons_succ]
  refine Steady.take ?_ rfl (by intro u hu; go_simp; with_reducible rfl) ?_
  simp only [Act.put, List.setIfInBounds_toArray, List.set_cons_zero, List.set_cons_succ]
  refine Steady.take ?_ rfl (by intro u hu; go_simp; with_reducible rfl) ?_
  simp only [Act.put, List.setIfInBounds_toArray, List.set_cons_zero, List.set_cons_succ]
  refine Steady.take ?_ rfl (by intro u hu; go_simp; with_reducible rfl) ?_
  simp only [Act.put, List.setIfInBounds_toArray, List.set_cons_zero, List.set_cons_succ]
  refine Steady.take ?_ rfl (by intro u hu; go_simp; with_reducible rfl) ?_
  simp only [Act.put, List.setIfInBounds_toArray, List.set_cons_zero, List.set_cons_succ]
  refine Steady.take ?_ rfl (by intro u hu; go_simp; with_reducible rfl) ?_
  simp only [Act.put, List.setIfInBounds_toArray, List.set_cons_zero, List.set_cons_succ]
  refine Steady.take ?_ rfl (by intro u hu; obtain ⟨c0, c1⟩ := HC.out u hu; go_simp; with_reducible rfl) ?_
  simp only [Act.put, List.setIfInBounds_toArray, List.set_cons_zero, List.set_cons_succ]
  refine Steady.take ?_ rfl (by intro u hu; obtain ⟨c0, c1⟩ := HC.out u hu; go_simp; with_reducible rfl) ?_
  simp only [Act.put, List.setIfInBounds_toArray, List.set_cons_zero, List.set_cons_succ]
  refine Steady.call _ _ _ rfl ?_ (Steady.kept R2.out) ?_
  · intro u
    go_simp
  simp only [Act.put, List.setIfInBounds_toArray, List.set_cons_zero, List.set_cons_succ]
  refine Steady.take ?_ rfl (by intro u hu; go_simp; with_reducible rfl) ?_
  simp only [Act.put, List.setIfInBounds_toArray, List.set_cons_zero, List.set_cons_succ]
  refine Steady.take ?_ rfl (by intro u hu; go_simp; with_reducible rfl) ?_
  simp only [Act.put, List.setIfInBounds_toArray, List.set_cons_zero, List.set_cons_succ]
  refine Steady.nil ?_
  intro wz hz
  have HC0 := Lib.hid (fun (u : World) (q : Below wz.heap.size wz u) => HC.out u (hz.trans (q.mono hz.size)))
  have HB0 := Lib.hid (HB00.out.trans (hz.mono HB00.out.size))
  clear hz HB00 HC heq hwA
  go_upto_region 4 with (fail)
  obtain ⟨c0, c1⟩ := HC0.out _ (Below.refl _ _)
  go_wp2_with fail
  refine (R3.out _).mono ?_
  rintro e w3 ⟨v, rfl, hown, hb3⟩
  obtain ⟨g, cp, cur, rfl, hg1, hg2, hg3, hg4⟩ := ints_row hown (by omega)
  have HG3 := Lib.hid hg3
  have HW3 := Lib.hid hb3
  have HGB := Lib.hid hg1
  clear hb3 c0 c1 hown hg3 hg1
  have HG4 := Lib.hid (fun (u : World) (hu : u.heap[g]? = some (.cells cur 3 (0, 0))) (k : Nat) (hk : k < M) => hg4 u hu k (D k) (HDA.out k (by have := HM0.out; omega)))
  rw [← HM0.out] at hg2 ⊢
  clear hg4
  have hown0 : w3.ownsRow w3.heap.size 9 1 (.slice none 0 0) 0 (Strs.strsV (pieces F 0)) := ⟨rfl, .inl ⟨rfl, rfl⟩⟩
  have HOWN0 := Lib.hid hown0
  clear hown0
  go_wp2_with fail
  go_loopw [11, 12, 13, 31] (fun v _ _ i wr => ∃ k : Nat, k ≤ M ∧ i = .int .i64 k ∧ wr.ownsRow w3.heap.size 9 1 v k (Strs.strsV (pieces F k)) ∧ Below w3.heap.size w3 wr) (fun _ _ _ i _ => M - (intOf i).toNat)
  case atStart => exact ⟨0, by omega, rfl, HOWN0.out, Below.refl _ _⟩
  case round =>
    clear HOWN0
    obtain ⟨k, hk, rfl, hown, hbel⟩ := hrel
    have hgk := (hbel.block g (Array.getElem?_eq_some_iff.1 HG3.out).1).trans HG3.out
    have HW := Lib.hid hbel
    have HOWN := Lib.hid hown
    clear hbel hown
    by_cases hlt : k < M
    · have hc := HG4.out wr hgk k hlt
      obtain ⟨e1, e2, e3, e4, e5⟩ := HWR.out k hlt
      obtain ⟨P, hP⟩ : ∃ P, P = tx (F k) := ⟨_, rfl⟩
      have hnx : pieces F (k + 1) = pieces F k ++ [P] := by rw [hP]; exact pieces_next F k
      have hT := piece_cut sig (N * k) N (N * (k + 1)) (Nat.mul_succ _ _)
      obtain ⟨T, hTT⟩ : ∃ T, T = sig.extract (N * k) (N * (k + 1)) := ⟨_, rfl⟩
      rw [← hTT] at hT
      have hcut := hTT.symm
      have RR1 := Lib.hid (fun (u : World) => RR.out k hlt T P hT hP u)
      have HNX := Lib.hid hnx
      have hzr := HW3.out.trans (HW.out.mono HW3.out.size)
      have HC1 := Lib.hid (fun (u : World) (q : Below wr.heap.size wr u) => HC0.out u (hzr.trans (q.mono hzr.size)))
      clear hT hTT hP hnx hgk hzr
      generalize D k = dk at *
      obtain ⟨a, ha⟩ : ∃ a, a = N * k := ⟨_, rfl⟩
      obtain ⟨b, hb⟩ : ∃ b, b = N * (k + 1) := ⟨_, rfl⟩
      rw [← ha] at e1 e4 hcut
      rw [← hb] at e2 e4 e5 hcut
      have e6 : (0 : Int) ≤ (a : Int) := by omega
      have e7 : (0 : Int) ≤ (b : Int) := by omega
      clear ha hb
      have E8 := Lib.hid (show (a : Int).toNat = a by omega)
      have E9 := Lib.hid (show (b : Int).toNat = b by omega)
      go_upto_region 7 with (fail)
      clear hc
      have e8 := E8.out
      have e9 := E9.out
      obtain ⟨c0, c1⟩ := HC1.out _ (Below.refl _ _).drew
      go_region_law ((first
        | (refine step_call rfl 16 Tryd.call16 #[.tmp 37, .tmp 38, .tmp 41, .tmp 42, .const (.int .i64 15), .tmp 53] #[23, 9, 27, 3, 3, 9] rfl #[.agg #[.int .i64 (N : Int), .int .i64 h], .string room, .agg #[.int .i64 leaf, .int .i64 (k : Int)], .int .i64 (dk : Int), .int .i64 15, .string T] (by first | (simp [Act.eval]; done) | simp [Act.eval, Act.put]) _ _ (RR1.out _) ?_; intro w7 hb7)
        | (refine Strs.step_append_str (by rfl) _ _ (by rfl) w7 P w3.heap.size k _ (pieces F k) (by rfl) (by rfl) (Strs.own_below HOWN.out (((Below.refl _ _).drew).trans hb7)) (by omega) (by have := HW.out.size; have := hb7.size; simp at *; omega) ?_; intro v' w8 hown8 hgrow8)))
      all_goals
        have hz7 : Below w3.heap.size w3 w7 := HW.out.drew.trans (hb7.mono HW.out.size)
        have HW8 := Lib.hid ((hz7.alloc hz7.size (.cells #[.string P] 9)).grown hgrow8 (Nat.le_trans hz7.size (by simp)) (fun j hj => (HOWN.out.lt j hj).1))
        rw [← HNX.out] at hown8
        have HO8 := Lib.hid hown8
        clear hz7 hown8 hgrow8 hb7 c0 c1 e1 e2 e3 e4 e5 e6 e7 e8 e9 hcut
        go_wp2
        go_roundw
        case rel => exact ⟨k + 1, by omega, by go_num, HO8.out, HW8.out⟩
        case measure => simp [intOf]; omega
    · obtain rfl : k = M := by omega
      obtain ⟨g2, cp2, rfl, hg1, hg2⟩ := strs_row HOWN.out hM0
      have hcell : ∀ c, c < k → wr.cell? ⟨g2, c, none⟩ = some (.string (tx (F c))) := fun c hc => hg2 c _ (pieces_at F k c hc)
      have RE1 := Lib.hid (RE.out g2 cp2 wr hg1 hcell)
      have hzr := HW3.out.trans (HW.out.mono HW3.out.size)
      obtain ⟨c0, c1⟩ := HC0.out _ hzr
      have HZR := Lib.hid hzr
      clear hg1 hg2 hcell hzr hgk
      go_wp2_with fail
      refine RE1.out.mono ?_
      rintro e w6 ⟨rfl, hb6⟩
      have HZ6 := Lib.hid (HB0.out.trans ((HZR.out.trans (hb6.mono HZR.out.size)).mono HB0.out.size))
      clear hb6 c0 c1
      go_wp2
      go_ret
      exact ⟨rfl, HZ6.out⟩
end Go.Proofs.YtjhilaiilckalaaDoor.RefChn

namespace Go.Proofs.YtjhilaiilckalaaDoor.Chn
open Go.RowKit Mur Sha
set_option maxRecDepth 100000

/-- The answers for any shape. -/
def countR (n h : Int) : Int := if Right n h then 2 * n + 3 else 0
def digR (n h : Int) (d : ByteArray) : List Nat := if Right n h then digs n.toNat d.data.toList else []
def runR (n h : Int) (room : ByteArray) (s0 s1 a b : Int) (v : ByteArray) : ByteArray := if Right n h then tx (runI n.toNat room.data.toList s0 s1 a b v.data.toList) else ⟨#[]⟩
def leafR (n h : Int) (seed room : ByteArray) (leaf : Int) : ByteArray := if Right n h then tx (leafOf n.toNat seed.data.toList room.data.toList leaf) else ⟨#[]⟩
def signR (n h : Int) (seed room : ByteArray) (leaf : Int) (d : ByteArray) : ByteArray := if Right n h then tx (sign n.toNat seed.data.toList room.data.toList leaf d.data.toList) else ⟨#[]⟩
def foundR (n h : Int) (room : ByteArray) (leaf : Int) (sig d : ByteArray) : ByteArray := if Right n h then (if sig.size = n.toNat * (2 * n.toNat + 3) then tx (found n.toNat room.data.toList leaf sig.data.toList d.data.toList) else ⟨#[]⟩) else ⟨#[]⟩

theorem right_nat {n h : Int} (hr : Right n h) : ∃ N : Nat, n = (N : Int) ∧ n.toNat = N ∧ N ≤ 32 ∧ 2 ≤ N := by
  obtain ⟨h1, h2, -, -⟩ := hr
  exact ⟨n.toNat, by omega, rfl, by omega, by omega⟩

theorem count_all (n h : Int) (w : World) : Calls Tryd.prog 10 #[.agg #[.int .i64 n, .int .i64 h]] w fun e w' => e = .returned (.int .i64 (countR n h)) ∧ Below w.heap.size w w' := by
  by_cases hr : Right n h
  · rw [countR, if_pos hr]; exact count_yes n h hr w
  · rw [countR, if_neg hr]; exact count_no n h hr w
theorem count_ref (n h : Int) (w : World) : Calls Tryd.prog 11 #[.agg #[.int .i64 n, .int .i64 h]] w fun e w' => e = .returned (.int .i64 (countR n h)) ∧ Below w.heap.size w w' := by
  by_cases hr : Right n h
  · rw [countR, if_pos hr]; exact RefChn.count_yes n h hr w
  · rw [countR, if_neg hr]; exact RefChn.count_no n h hr w

theorem digits_all (n h : Int) (d : ByteArray) (w : World) : Calls Tryd.prog 13 #[.agg #[.int .i64 n, .int .i64 h], .string d] w fun e w' => ∃ v, e = .returned v ∧ Rowed v (digR n h d) w' ∧ Below w.heap.size w w' := by
  by_cases hr : Right n h
  · rw [digR, if_pos hr]
    obtain ⟨N, rfl, hN, -, -⟩ := right_nat hr
    rw [hN]
    exact (digits_any N h d w hr).mono fun e w' ⟨v, h1, h2, h3⟩ => ⟨v, h1, rowed_of h2 (digs_length _ _).symm, h3⟩
  · rw [digR, if_neg hr]
    exact (digits_no n h hr d w).mono fun e w' ⟨h1, h2⟩ => ⟨_, h1, rowed_none _, h2⟩
theorem digits_ref (n h : Int) (d : ByteArray) (w : World) (hds : d.size ≤ 200000) : Calls Tryd.prog 14 #[.agg #[.int .i64 n, .int .i64 h], .string d] w fun e w' => ∃ v, e = .returned v ∧ Rowed v (digR n h d) w' ∧ Below w.heap.size w w' := by
  by_cases hr : Right n h
  · rw [digR, if_pos hr]
    obtain ⟨N, rfl, hN, -, -⟩ := right_nat hr
    rw [hN]
    exact (RefChn.digits_any N h d w hr (by omega)).mono fun e w' ⟨v, h1, h2, h3⟩ => ⟨v, h1, rowed_of h2 (digs_length _ _).symm, h3⟩
  · rw [digR, if_neg hr]
    exact (RefChn.digits_no n h hr d w).mono fun e w' ⟨h1, h2⟩ => ⟨_, h1, rowed_none _, h2⟩
theorem digR_le (n h : Int) (d : ByteArray) : (digR n h d).length ≤ 1000000 := by
  unfold digR
  split
  · rename_i hr
    obtain ⟨N, rfl, hN, h32, -⟩ := right_nat hr
    rw [digs_length, hN]
    omega
  · simp

theorem run_all (n h : Int) (room : ByteArray) (s0 s1 a b : Int) (v : ByteArray) (w : World) (hs : room.size + v.size ≤ 400000) (hk : Consts w) :
    Calls Tryd.prog 15 #[.agg #[.int .i64 n, .int .i64 h], .string room, .agg #[.int .i64 s0, .int .i64 s1], .int .i64 a, .int .i64 b, .string v] w fun e w' => e = .returned (.string (runR n h room s0 s1 a b v)) ∧ Below w.heap.size w w' := by
  by_cases hr : Right n h
  · rw [runR, if_pos hr]
    obtain ⟨N, rfl, hN, -, -⟩ := right_nat hr
    rw [hN]
    exact run_any N h room v s0 s1 a b _ w hr (by omega) rfl hk
  · rw [runR, if_neg hr]; exact run_no n h hr room v s0 s1 a b w
theorem run_ref (n h : Int) (room : ByteArray) (s0 s1 a b : Int) (v : ByteArray) (w : World) (hs : room.size + v.size ≤ 400000) :
    Calls Tryd.prog 16 #[.agg #[.int .i64 n, .int .i64 h], .string room, .agg #[.int .i64 s0, .int .i64 s1], .int .i64 a, .int .i64 b, .string v] w fun e w' => e = .returned (.string (runR n h room s0 s1 a b v)) ∧ Below w.heap.size w w' := by
  by_cases hr : Right n h
  · rw [runR, if_pos hr]
    obtain ⟨N, rfl, hN, -, -⟩ := right_nat hr
    rw [hN]
    exact RefChn.run_any N h room v s0 s1 a b _ w hr (by omega) rfl
  · rw [runR, if_neg hr]; exact RefChn.run_no n h hr room v s0 s1 a b w

theorem leaf_all (n h : Int) (seed room : ByteArray) (leaf : Int) (w : World) (hs : seed.size + room.size ≤ 400000) (hk : Consts w) :
    Calls Tryd.prog 17 #[.agg #[.int .i64 n, .int .i64 h], .string seed, .string room, .int .i64 leaf] w fun e w' => e = .returned (.string (leafR n h seed room leaf)) ∧ Below w.heap.size w w' := by
  by_cases hr : Right n h
  · rw [leafR, if_pos hr]
    obtain ⟨N, rfl, hN, -, -⟩ := right_nat hr
    rw [hN]
    exact leaf_any N h seed room leaf _ w hr (by omega) rfl hk
  · rw [leafR, if_neg hr]; exact leaf_no n h hr seed room leaf w
theorem leaf_ref (n h : Int) (seed room : ByteArray) (leaf : Int) (w : World) (hs : seed.size + room.size ≤ 400000) :
    Calls Tryd.prog 18 #[.agg #[.int .i64 n, .int .i64 h], .string seed, .string room, .int .i64 leaf] w fun e w' => e = .returned (.string (leafR n h seed room leaf)) ∧ Below w.heap.size w w' := by
  by_cases hr : Right n h
  · rw [leafR, if_pos hr]
    obtain ⟨N, rfl, hN, -, -⟩ := right_nat hr
    rw [hN]
    exact RefChn.leaf_any N h seed room leaf _ w hr (by omega) rfl
  · rw [leafR, if_neg hr]; exact RefChn.leaf_no n h hr seed room leaf w

theorem sign_all (n h : Int) (seed room : ByteArray) (leaf : Int) (d : ByteArray) (w : World) (hs : seed.size + room.size ≤ 400000) (hk : Consts w) :
    Calls Tryd.prog 19 #[.agg #[.int .i64 n, .int .i64 h], .string seed, .string room, .int .i64 leaf, .string d] w fun e w' => e = .returned (.string (signR n h seed room leaf d)) ∧ Below w.heap.size w w' := by
  by_cases hr : Right n h
  · rw [signR, if_pos hr]
    obtain ⟨N, rfl, hN, -, -⟩ := right_nat hr
    rw [hN]
    exact sign_any N h seed room d leaf _ w hr (by omega) rfl hk
  · rw [signR, if_neg hr]; exact sign_no n h hr seed room d leaf w
theorem sign_ref (n h : Int) (seed room : ByteArray) (leaf : Int) (d : ByteArray) (w : World) (hs : seed.size + room.size ≤ 400000) (hds : d.size ≤ 200000) :
    Calls Tryd.prog 20 #[.agg #[.int .i64 n, .int .i64 h], .string seed, .string room, .int .i64 leaf, .string d] w fun e w' => e = .returned (.string (signR n h seed room leaf d)) ∧ Below w.heap.size w w' := by
  by_cases hr : Right n h
  · rw [signR, if_pos hr]
    obtain ⟨N, rfl, hN, -, -⟩ := right_nat hr
    rw [hN]
    exact RefChn.sign_any N h seed room d leaf _ w hr (by omega) (by omega) rfl
  · rw [signR, if_neg hr]; exact RefChn.sign_no n h hr seed room d leaf w

theorem found_all (n h : Int) (room : ByteArray) (leaf : Int) (sig d : ByteArray) (w : World) (hs : room.size ≤ 200000) (hk : Consts w) :
    Calls Tryd.prog 21 #[.agg #[.int .i64 n, .int .i64 h], .string room, .int .i64 leaf, .string sig, .string d] w fun e w' => e = .returned (.string (foundR n h room leaf sig d)) ∧ Below w.heap.size w w' := by
  by_cases hr : Right n h
  · rw [foundR, if_pos hr]
    obtain ⟨N, rfl, hN, -, -⟩ := right_nat hr
    rw [hN]
    by_cases hz : sig.size = N * (2 * N + 3)
    · rw [if_pos hz]
      exact found_any N h room sig d leaf _ w hr hz (by omega) rfl hk
    · rw [if_neg hz]
      exact found_other N h hr room sig d leaf hz w
  · rw [foundR, if_neg hr]; exact found_no n h hr room sig d leaf w
theorem found_ref (n h : Int) (room : ByteArray) (leaf : Int) (sig d : ByteArray) (w : World) (hs : room.size ≤ 200000) (hds : d.size ≤ 200000) :
    Calls Tryd.prog 22 #[.agg #[.int .i64 n, .int .i64 h], .string room, .int .i64 leaf, .string sig, .string d] w fun e w' => e = .returned (.string (foundR n h room leaf sig d)) ∧ Below w.heap.size w w' := by
  by_cases hr : Right n h
  · rw [foundR, if_pos hr]
    obtain ⟨N, rfl, hN, -, -⟩ := right_nat hr
    rw [hN]
    by_cases hz : sig.size = N * (2 * N + 3)
    · rw [if_pos hz]
      exact RefChn.found_any N h room sig d leaf _ w hr hz (by omega) (by omega) rfl
    · rw [if_neg hz]
      exact RefChn.found_other N h hr room sig d leaf hz w
  · rw [foundR, if_neg hr]; exact RefChn.found_no n h hr room sig d leaf w
end Go.Proofs.YtjhilaiilckalaaDoor.Chn
