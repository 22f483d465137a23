/-
  The document's own answers for Start, the turned word, Round and the table of SHA-256's constants are what the plain mathematics of the text Sha says. Conditions: a word is turned by 1 to 31 bits; each word is below 2^32.
-/
import Derived.Test.YtncafbejgidliaaDoorDigBlock
namespace Go.Proofs.YtncafbejgidliaaDoor.RefSha
open Go.RowKit Mur Sha
set_option maxRecDepth 100000

set_option maxHeartbeats 800000 in
theorem start_any (w : World) :
    Calls Tryd.prog 58 #[] w fun e w' => e = .returned Sha.start.val ∧ Below w.heap.size w w' := by
  go_enter Tryd.func58, Tryd.ntmps58
  go_wp2
  refine bodyPost_ret (v := Sha.start.val) ?_ rfl ⟨rfl, ?_⟩
  · simp [results, Tryd.results58, go_sem]
    rfl
  · exact (Below.refl _ _).alloc (Nat.le_refl _) _

set_option maxHeartbeats 800000 in
theorem turn_any (x n : Nat) (w : World) (hx : x < 4294967296) (h1 : 1 ≤ n) (h2 : n ≤ 31) :
    Calls Tryd.prog 66 #[.int .u32 x, .int .u64 n] w fun e w' => e = .returned (.int .u32 (rot x n : Nat)) ∧ w = w' := by
  go_enter Tryd.func66, Tryd.ntmps66
  go_wp2
  go_ret
  refine ⟨Lanes.ret_int ?_, rfl⟩
  have e1 : (x : Int) * 2 ^ (32 - n) % 4294967296 = ((x * 2 ^ (32 - n) % 4294967296 : Nat) : Int) := by rw [Int.natCast_emod, Int.natCast_mul, Int.natCast_pow]; rfl
  have e2 : (x : Int) / 2 ^ n = ((x / 2 ^ n : Nat) : Int) := by rw [Int.natCast_ediv, Int.natCast_pow]; rfl
  rw [e1, e2, u32_or_nat _ _ (Nat.lt_of_le_of_lt (Nat.div_le_self _ _) hx) (Nat.mod_lt _ (by decide)), Nat.or_comm]
  rfl

theorem turn_q (x n : Nat) (k : Int) (w : World) (hk : k = (n : Int)) (hx : x < 4294967296) (h1 : 1 ≤ n) (h2 : n ≤ 31) :
    Calls Tryd.prog 66 #[.int .u32 x, .int .u64 k] w fun e w' => e = .returned (.int .u32 (rot x n : Nat)) ∧ w' = w := by
  subst hk
  exact (turn_any x n w hx h1 h2).mono fun _ _ h => ⟨h.1, h.2.symm⟩

theorem maj_ref (a b c : Nat) : (a &&& (b ||| c)) ||| (b &&& c) = (a &&& b) ||| (c &&& (a ||| b)) := by
  apply Nat.eq_of_testBit_eq
  intro i
  simp only [Nat.testBit_and, Nat.testBit_or]
  cases a.testBit i <;> cases b.testBit i <;> cases c.testBit i <;> rfl

/-- What Round leans on. -/
def Kept (w0 : World) (v : S8) (w : World) : Prop := Whole w w0.heap.size 85 v.cells.toList ∧ Whole w (w0.heap.size + 1) 85 zeros8 ∧ Below w0.heap.size w0 w
theorem Kept.drewN {w0 : World} {v : S8} {w : World} (k : Kept w0 v w) (n : Nat) : Kept w0 v (w.drewN n) := ⟨k.1, k.2.1, belowN k.2.2 n⟩

set_option maxHeartbeats 1600000 in
theorem round_any (v : S8) (k : Nat) (w : World) (hv : v.Ok) :
    Calls Tryd.prog 67 #[v.val, .int .u32 k] w fun e w' => e = .returned (roundOf v k).val ∧ Below w.heap.size w w' := by
  obtain ⟨R, hR⟩ : ∃ R, R = roundOf v k := ⟨_, rfl⟩
  rw [← hR]
  obtain ⟨a, b, c, d, e, f, g, h⟩ := v
  obtain ⟨ha, hb, hc, hd, he, hf, hg, hh⟩ := hv
  dsimp only at ha hb hc hd he hf hg hh
  have HR := Lib.hid hR
  clear hR
  simp only [S8.val, S8.cells]
  have T6 := Lib.hid (fun W => turn_q e 6 6 W rfl he (by omega) (by omega))
  have T11 := Lib.hid (fun W => turn_q e 11 11 W rfl he (by omega) (by omega))
  have T25 := Lib.hid (fun W => turn_q e 25 25 W rfl he (by omega) (by omega))
  have T2 := Lib.hid (fun W => turn_q a 2 2 W rfl ha (by omega) (by omega))
  have T13 := Lib.hid (fun W => turn_q a 13 13 W rfl ha (by omega) (by omega))
  have T22 := Lib.hid (fun W => turn_q a 22 22 W rfl ha (by omega) (by omega))
  go_enter Tryd.func67, Tryd.ntmps67
  go_wp2
  have hA : Whole ((w.alloc (.cells #[.int .u32 (a : Int), .int .u32 (b : Int), .int .u32 (c : Int), .int .u32 (d : Int), .int .u32 (e : Int), .int .u32 (f : Int), .int .u32 (g : Int), .int .u32 (h : Int)] 85)).alloc (.cells zeros8.toArray 85)) w.heap.size 85 (⟨a, b, c, d, e, f, g, h⟩ : S8).cells.toList := (Whole.made' w _ (⟨a, b, c, d, e, f, g, h⟩ : S8).cells _ rfl).alloc _
  have hZ : Whole ((w.alloc (.cells #[.int .u32 (a : Int), .int .u32 (b : Int), .int .u32 (c : Int), .int .u32 (d : Int), .int .u32 (e : Int), .int .u32 (f : Int), .int .u32 (g : Int), .int .u32 (h : Int)] 85)).alloc (.cells zeros8.toArray 85)) (w.heap.size + 1) 85 zeros8 := Whole.made' _ _ zeros8.toArray _ (by simp)
  have hB : Below w.heap.size w ((w.alloc (.cells #[.int .u32 (a : Int), .int .u32 (b : Int), .int .u32 (c : Int), .int .u32 (d : Int), .int .u32 (e : Int), .int .u32 (f : Int), .int .u32 (g : Int), .int .u32 (h : Int)] 85)).alloc (.cells zeros8.toArray 85)) := ((Below.refl _ _).alloc (Nat.le_refl _) _).alloc (by simp) _
  have HE := Lib.hid (show Kept w (⟨a, b, c, d, e, f, g, h⟩ : S8) _ from ⟨hA, hZ, hB⟩)
  clear hA hZ hB
  have HE1 : Hid (Kept w (⟨a, b, c, d, e, f, g, h⟩ : S8) ((w.alloc (.cells #[.int .u32 (a : Int), .int .u32 (b : Int), .int .u32 (c : Int), .int .u32 (d : Int), .int .u32 (e : Int), .int .u32 (f : Int), .int .u32 (g : Int), .int .u32 (h : Int)] 85)).alloc (.cells #[.int .u32 0, .int .u32 0, .int .u32 0, .int .u32 0, .int .u32 0, .int .u32 0, .int .u32 0, .int .u32 0] 85))) := HE
  clear HE
  generalize (w.alloc (.cells #[.int .u32 (a : Int), .int .u32 (b : Int), .int .u32 (c : Int), .int .u32 (d : Int), .int .u32 (e : Int), .int .u32 (f : Int), .int .u32 (g : Int), .int .u32 (h : Int)] 85)).alloc (.cells #[.int .u32 0, .int .u32 0, .int .u32 0, .int .u32 0, .int .u32 0, .int .u32 0, .int .u32 0, .int .u32 0] 85) = wx at *
  obtain ⟨c0, c1, c2, c3, c4, c5, c6, c7⟩ := whole_cells HE1.out.1
  dsimp only at c0 c1 c2 c3 c4 c5 c6 c7
  go_quiet (fail)
  have HE2 := Lib.hid (HE1.out.drewN nq)
  clear HE1 c0 c1 c2 c3 c4 c5 c6 c7
  generalize wx.drewN nq = wy at *
  obtain ⟨c0, c1, c2, c3, c4, c5, c6, c7⟩ := whole_cells HE2.out.1
  dsimp only at c0 c1 c2 c3 c4 c5 c6 c7
  go_wp2
  go_quiet ((first
    | (go_at_call 66; with_reducible exact Calls.quiet_of_same (T6.out _))
    | (go_at_call 66; with_reducible exact Calls.quiet_of_same (T11.out _))
    | (go_at_call 66; with_reducible exact Calls.quiet_of_same (T25.out _))))
  have HE3 := Lib.hid (HE2.out.drewN nq)
  clear HE2 c0 c1 c2 c3 c4 c5 c6 c7
  generalize wy.drewN nq = wz at *
  obtain ⟨c0, c1, c2, c3, c4, c5, c6, c7⟩ := whole_cells HE3.out.1
  dsimp only at c0 c1 c2 c3 c4 c5 c6 c7
  go_wp2
  go_quiet ((first
    | (go_at_call 66; with_reducible exact Calls.quiet_of_same (T2.out _))
    | (go_at_call 66; with_reducible exact Calls.quiet_of_same (T13.out _))
    | (go_at_call 66; with_reducible exact Calls.quiet_of_same (T22.out _))))
  have HE4 := Lib.hid (HE3.out.drewN nq)
  clear HE3 c0 c1 c2 c3 c4 c5 c6 c7
  generalize wz.drewN nq = wu at *
  obtain ⟨c0, c1, c2, c3, c4, c5, c6, c7⟩ := whole_cells HE4.out.1
  dsimp only at c0 c1 c2 c3 c4 c5 c6 c7
  obtain ⟨P, hP⟩ : ∃ P, P = lowS e f g ((h + k) % 4294967296) := ⟨_, rfl⟩
  obtain ⟨Q, hQ⟩ : ∃ Q, Q = highS a b c := ⟨_, rfl⟩
  have hp : ((h : Int) + (k : Int) + bits .xor .u32 (bits .xor .u32 ((rot e 6 : Nat) : Int) ((rot e 11 : Nat) : Int)) ((rot e 25 : Nat) : Int) + bits .xor .u32 (g : Int) (bits .and .u32 (e : Int) (bits .xor .u32 (f : Int) (g : Int)))) % 4294967296 = (P : Int) := by
    have r1 := rot_lt e 6 he
    have r2 := rot_lt e 11 he
    have r3 := rot_lt e 25 he
    rw [u32_xor_nat _ _ r1 r2, u32_xor_nat _ _ (xor_lt _ _ r1 r2) r3, u32_xor_nat _ _ hf hg, u32_and_nat _ _ he (xor_lt _ _ hf hg), u32_xor_nat _ _ hg (and_lt _ _ he), hP]
    unfold lowS
    omega
  have hq : (bits .xor .u32 (bits .xor .u32 ((rot a 2 : Nat) : Int) ((rot a 13 : Nat) : Int)) ((rot a 22 : Nat) : Int) + bits .or .u32 (bits .and .u32 (a : Int) (bits .or .u32 (b : Int) (c : Int))) (bits .and .u32 (b : Int) (c : Int))) % 4294967296 = (Q : Int) := by
    have r1 := rot_lt a 2 ha
    have r2 := rot_lt a 13 ha
    have r3 := rot_lt a 22 ha
    rw [u32_xor_nat _ _ r1 r2, u32_xor_nat _ _ (xor_lt _ _ r1 r2) r3, u32_or_nat _ _ hb hc, u32_and_nat _ _ ha (or_lt _ _ hb hc), u32_and_nat _ _ hb hc, u32_or_nat _ _ (and_lt _ _ ha) (and_lt _ _ hb), maj_ref, hQ]
    unfold highS
    omega
  have hPQ : R.val = .agg #[.int .u32 (((P : Int) + (Q : Int)) % 4294967296), .int .u32 (a : Int), .int .u32 (b : Int), .int .u32 (c : Int), .int .u32 (((d : Int) + (P : Int)) % 4294967296), .int .u32 (e : Int), .int .u32 (f : Int), .int .u32 (g : Int)] := by
    rw [HR.out, hP, hQ]
    simp only [S8.val, S8.cells, roundOf, Int.natCast_emod, Int.natCast_add]
    rfl
  have HPQ := Lib.hid hPQ
  have hz : wu.heap[w.heap.size + 1]? = some (.cells zeros8.toArray 85 (0, 0)) := HE4.out.2.1
  have HZ := Lib.hid hz
  clear hP hQ hPQ hz
  go_upto_region 4 with (fail)
  simp only [Int.emod_add_emod, hp, hq]
  clear hp hq
  go_wp2_with ((with_reducible refine wpList_store_row rfl 85 (.tmp 4) (.tmp 76) rfl (w.heap.size + 1) #[.int .u32 (((P : Int) + (Q : Int)) % 4294967296), .int .u32 (a : Int), .int .u32 (b : Int), .int .u32 (c : Int), .int .u32 (((d : Int) + (P : Int)) % 4294967296), .int .u32 (e : Int), .int .u32 (f : Int), .int .u32 (g : Int)] rfl rfl 85 zeros8.toArray HZ.out (lit8 _ _ _ _ _ _ _ _).1 (lit8 _ _ _ _ _ _ _ _).2.1 (lit8 _ _ _ _ _ _ _ _).2.2 ?_))
  refine bodyPost_ret (v := R.val) ?_ rfl ⟨rfl, below_setRow HE4.out.2.2 (by omega) _⟩
  rw [HPQ.out]
  exact results_whole (ty := 85) Tryd.results67 _ _ (w.heap.size + 1) 85 [.int .u32 (((P : Int) + (Q : Int)) % 4294967296), .int .u32 (a : Int), .int .u32 (b : Int), .int .u32 (c : Int), .int .u32 (((d : Int) + (P : Int)) % 4294967296), .int .u32 (e : Int), .int .u32 (f : Int), .int .u32 (g : Int)] _ (by simp [Act.put]) (Whole.setRow HE4.out.2.1 _) Tryd.underlying85 rfl (lit8 _ _ _ _ _ _ _ _).1

/-- A literal of many parts, its cells said by the caller. -/
theorem wpList_build_to {P : Program} {ops : Array Oper} {rest : List Oper} {o : Oper} {a : Act} {w : World} {Q : Exit → Act → World → Prop} (hg : o.guard = none) (t : TypeId) (parts : Array (Nat × Operand)) (ho : o.op = .build t parts) (z : List Value)
    (hz : P.built t (parts.map fun (i, x) => (i, a.eval x)).toList = some z.toArray) (h : wpList P ops Q rest (a.put o.dst (.agg z.toArray)) w) : wpList P ops Q (o :: rest) a w :=
  wpList_build hg t parts ho (by rw [hz]; rfl) (by rw [hz]; exact h)
theorem table_size : (Tryd.prog.info? 92).map (·.size) = some (Lanes.wordsV ks).length := by kernel_rfl
theorem table_long : zeros64.length = (Lanes.wordsV ks).length := rfl

set_option maxHeartbeats 800000 in
theorem factors_any (w : World) :
    Calls Tryd.prog 65 #[] w fun e w' => e = .returned (.agg (Lanes.wordsV ks).toArray) ∧ Below w.heap.size w w' := by
  go_enter Tryd.func65, Tryd.ntmps65
  go_wp2_with ((first
    | (with_reducible refine wpList_alloc_z rfl 92 rfl zeros64 zero_info ?_)
    | (with_reducible refine wpList_build_to rfl 92 _ rfl (Lanes.wordsV ks) (by kernel_rfl) ?_)
    | (with_reducible refine wpList_store_new rfl 92 _ _ rfl _ (Lanes.wordsV ks) zeros64 rfl rfl rfl table_size table_long (all_oneCell_toArray (words_one ks)) ?_)))
  refine bodyPost_ret (v := .agg (Lanes.wordsV ks).toArray) ?_ rfl ⟨rfl, (Below.refl _ _).alloc (Nat.le_refl _) _⟩
  exact results_whole (ty := 92) Tryd.results65 _ _ w.heap.size 92 (Lanes.wordsV ks) _ (by simp [Act.put]) (Whole.made _ _ _) Tryd.underlying92 rfl table_size
end Go.Proofs.YtncafbejgidliaaDoor.RefSha
