/-
  Several texts as one (RefRound, RefLaid, RefBlock, RefOf). The document's own answers for Start, the turned word, Round and the table of SHA-256's constants are what the plain mathematics of the text Sha says. Conditions: a word is turned by 1 to 31 bits; each word is below 2^32. What the document's own Block of layer 2 keeps of memory from round to round, and an append of one word that tells that the old cells stay. No condition but those that each lemma names. The document's own answer for Block of layer 2 answers what the plain mathematics of the text Sha says, and leaves all memory that was there as it was. Conditions: the block has 64 bytes, the eight words are below 2^32. The document's own answer for Of of layer 2 answers what the plain mathematics of the text Sha says, and leaves all memory that was there as it was. Condition: the text has no more than a million bytes.
-/
import Derived.Test.YtedgpglldlohfaaGreatDoorMDig
import Derived.Test.YtedgpglldlohfaaGreatDoorMRef
import Derived.Deep.RegionHeld3
import Derived.Deep.AppendLies
namespace Go.Proofs.YtedgpglldlohfaaGreatDoor.RefSha
open Go.RowKit Mur Sha
set_option maxRecDepth 100000

set_option maxHeartbeats 800000 in
theorem start_any (w : World) :
    Calls Tryz.prog 96 #[] w fun e w' => e = .returned Sha.start.val ∧ Below w.heap.size w w' := by
  go_enter Tryz.func96, Tryz.ntmps96
  go_wp2
  refine bodyPost_ret (v := Sha.start.val) ?_ rfl ⟨rfl, ?_⟩
  · simp [results, Tryz.results96, go_sem]
    rfl
  · exact (Below.refl _ _).alloc (Nat.le_refl _) _

set_option maxHeartbeats 800000 in
theorem turn_any (x n : Nat) (w : World) (hx : x < 4294967296) (h1 : 1 ≤ n) (h2 : n ≤ 31) :
    Calls Tryz.prog 107 #[.int .u32 x, .int .u64 n] w fun e w' => e = .returned (.int .u32 (rot x n : Nat)) ∧ w = w' := by
  go_enter Tryz.func107, Tryz.ntmps107
  go_wp2
  go_ret
  refine ⟨Lanes.ret_int ?_, rfl⟩
  have e1 : (x : Int) * 2 ^ (32 - n) % 4294967296 = ((x * 2 ^ (32 - n) % 4294967296 : Nat) : Int) := by rw [Int.natCast_emod, Int.natCast_mul, Int.natCast_pow]; rfl
  have e2 : (x : Int) / 2 ^ n = ((x / 2 ^ n : Nat) : Int) := by rw [Int.natCast_ediv, Int.natCast_pow]; rfl
  rw [e1, e2, u32_or_nat _ _ (Nat.lt_of_le_of_lt (Nat.div_le_self _ _) hx) (Nat.mod_lt _ (by decide)), Nat.or_comm]
  rfl

theorem turn_q (x n : Nat) (k : Int) (w : World) (hk : k = (n : Int)) (hx : x < 4294967296) (h1 : 1 ≤ n) (h2 : n ≤ 31) :
    Calls Tryz.prog 107 #[.int .u32 x, .int .u64 k] w fun e w' => e = .returned (.int .u32 (rot x n : Nat)) ∧ w' = w := by
  subst hk
  exact (turn_any x n w hx h1 h2).mono fun _ _ h => ⟨h.1, h.2.symm⟩

theorem maj_ref (a b c : Nat) : (a &&& (b ||| c)) ||| (b &&& c) = (a &&& b) ||| (c &&& (a ||| b)) := by
  apply Nat.eq_of_testBit_eq
  intro i
  simp only [Nat.testBit_and, Nat.testBit_or]
  cases a.testBit i <;> cases b.testBit i <;> cases c.testBit i <;> rfl

/-- What Round leans on. -/
def Kept (w0 : World) (v : S8) (w : World) : Prop := Whole w w0.heap.size 103 v.cells.toList ∧ Whole w (w0.heap.size + 1) 103 zeros8 ∧ Below w0.heap.size w0 w
theorem Kept.drewN {w0 : World} {v : S8} {w : World} (k : Kept w0 v w) (n : Nat) : Kept w0 v (w.drewN n) := ⟨k.1, k.2.1, belowN k.2.2 n⟩

set_option maxHeartbeats 1600000 in
theorem round_any (v : S8) (k : Nat) (w : World) (hv : v.Ok) :
    Calls Tryz.prog 108 #[v.val, .int .u32 k] w fun e w' => e = .returned (roundOf v k).val ∧ Below w.heap.size w w' := by
  obtain ⟨R, hR⟩ : ∃ R, R = roundOf v k := ⟨_, rfl⟩
  rw [← hR]
  obtain ⟨a, b, c, d, e, f, g, h⟩ := v
  obtain ⟨ha, hb, hc, hd, he, hf, hg, hh⟩ := hv
  dsimp only at ha hb hc hd he hf hg hh
  have HR := Lib.hid hR
  clear hR
  simp only [S8.val, S8.cells]
  have T6 := Lib.hid (fun W => turn_q e 6 6 W rfl he (by omega) (by omega))
  have T11 := Lib.hid (fun W => turn_q e 11 11 W rfl he (by omega) (by omega))
  have T25 := Lib.hid (fun W => turn_q e 25 25 W rfl he (by omega) (by omega))
  have T2 := Lib.hid (fun W => turn_q a 2 2 W rfl ha (by omega) (by omega))
  have T13 := Lib.hid (fun W => turn_q a 13 13 W rfl ha (by omega) (by omega))
  have T22 := Lib.hid (fun W => turn_q a 22 22 W rfl ha (by omega) (by omega))
  go_enter Tryz.func108, Tryz.ntmps108
  go_wp2
  have hA : Whole ((w.alloc (.cells #[.int .u32 (a : Int), .int .u32 (b : Int), .int .u32 (c : Int), .int .u32 (d : Int), .int .u32 (e : Int), .int .u32 (f : Int), .int .u32 (g : Int), .int .u32 (h : Int)] 103)).alloc (.cells zeros8.toArray 103)) w.heap.size 103 (⟨a, b, c, d, e, f, g, h⟩ : S8).cells.toList := (Whole.made' w _ (⟨a, b, c, d, e, f, g, h⟩ : S8).cells _ rfl).alloc _
  have hZ : Whole ((w.alloc (.cells #[.int .u32 (a : Int), .int .u32 (b : Int), .int .u32 (c : Int), .int .u32 (d : Int), .int .u32 (e : Int), .int .u32 (f : Int), .int .u32 (g : Int), .int .u32 (h : Int)] 103)).alloc (.cells zeros8.toArray 103)) (w.heap.size + 1) 103 zeros8 := Whole.made' _ _ zeros8.toArray _ (by simp)
  have hB : Below w.heap.size w ((w.alloc (.cells #[.int .u32 (a : Int), .int .u32 (b : Int), .int .u32 (c : Int), .int .u32 (d : Int), .int .u32 (e : Int), .int .u32 (f : Int), .int .u32 (g : Int), .int .u32 (h : Int)] 103)).alloc (.cells zeros8.toArray 103)) := ((Below.refl _ _).alloc (Nat.le_refl _) _).alloc (by simp) _
  have HE := Lib.hid (show Kept w (⟨a, b, c, d, e, f, g, h⟩ : S8) _ from ⟨hA, hZ, hB⟩)
  clear hA hZ hB
  have HE1 : Hid (Kept w (⟨a, b, c, d, e, f, g, h⟩ : S8) ((w.alloc (.cells #[.int .u32 (a : Int), .int .u32 (b : Int), .int .u32 (c : Int), .int .u32 (d : Int), .int .u32 (e : Int), .int .u32 (f : Int), .int .u32 (g : Int), .int .u32 (h : Int)] 103)).alloc (.cells #[.int .u32 0, .int .u32 0, .int .u32 0, .int .u32 0, .int .u32 0, .int .u32 0, .int .u32 0, .int .u32 0] 103))) := HE
  clear HE
  generalize (w.alloc (.cells #[.int .u32 (a : Int), .int .u32 (b : Int), .int .u32 (c : Int), .int .u32 (d : Int), .int .u32 (e : Int), .int .u32 (f : Int), .int .u32 (g : Int), .int .u32 (h : Int)] 103)).alloc (.cells #[.int .u32 0, .int .u32 0, .int .u32 0, .int .u32 0, .int .u32 0, .int .u32 0, .int .u32 0, .int .u32 0] 103) = wx at *
  obtain ⟨c0, c1, c2, c3, c4, c5, c6, c7⟩ := whole_cells HE1.out.1
  dsimp only at c0 c1 c2 c3 c4 c5 c6 c7
  go_quiet (fail)
  have HE2 := Lib.hid (HE1.out.drewN nq)
  clear HE1 c0 c1 c2 c3 c4 c5 c6 c7
  generalize wx.drewN nq = wy at *
  obtain ⟨c0, c1, c2, c3, c4, c5, c6, c7⟩ := whole_cells HE2.out.1
  dsimp only at c0 c1 c2 c3 c4 c5 c6 c7
  go_wp2
  go_quiet ((first
    | (go_at_call 107; with_reducible exact Calls.quiet_of_same (T6.out _))
    | (go_at_call 107; with_reducible exact Calls.quiet_of_same (T11.out _))
    | (go_at_call 107; with_reducible exact Calls.quiet_of_same (T25.out _))))
  have HE3 := Lib.hid (HE2.out.drewN nq)
  clear HE2 c0 c1 c2 c3 c4 c5 c6 c7
  generalize wy.drewN nq = wz at *
  obtain ⟨c0, c1, c2, c3, c4, c5, c6, c7⟩ := whole_cells HE3.out.1
  dsimp only at c0 c1 c2 c3 c4 c5 c6 c7
  go_wp2
  go_quiet ((first
    | (go_at_call 107; with_reducible exact Calls.quiet_of_same (T2.out _))
    | (go_at_call 107; with_reducible exact Calls.quiet_of_same (T13.out _))
    | (go_at_call 107; with_reducible exact Calls.quiet_of_same (T22.out _))))
  have HE4 := Lib.hid (HE3.out.drewN nq)
  clear HE3 c0 c1 c2 c3 c4 c5 c6 c7
  generalize wz.drewN nq = wu at *
  obtain ⟨c0, c1, c2, c3, c4, c5, c6, c7⟩ := whole_cells HE4.out.1
  dsimp only at c0 c1 c2 c3 c4 c5 c6 c7
  obtain ⟨P, hP⟩ : ∃ P, P = lowS e f g ((h + k) % 4294967296) := ⟨_, rfl⟩
  obtain ⟨Q, hQ⟩ : ∃ Q, Q = highS a b c := ⟨_, rfl⟩
  have hp : ((h : Int) + (k : Int) + bits .xor .u32 (bits .xor .u32 ((rot e 6 : Nat) : Int) ((rot e 11 : Nat) : Int)) ((rot e 25 : Nat) : Int) + bits .xor .u32 (g : Int) (bits .and .u32 (e : Int) (bits .xor .u32 (f : Int) (g : Int)))) % 4294967296 = (P : Int) := by
    have r1 := rot_lt e 6 he
    have r2 := rot_lt e 11 he
    have r3 := rot_lt e 25 he
    rw [u32_xor_nat _ _ r1 r2, u32_xor_nat _ _ (xor_lt _ _ r1 r2) r3, u32_xor_nat _ _ hf hg, u32_and_nat _ _ he (xor_lt _ _ hf hg), u32_xor_nat _ _ hg (and_lt _ _ he), hP]
    unfold lowS
    omega
  have hq : (bits .xor .u32 (bits .xor .u32 ((rot a 2 : Nat) : Int) ((rot a 13 : Nat) : Int)) ((rot a 22 : Nat) : Int) + bits .or .u32 (bits .and .u32 (a : Int) (bits .or .u32 (b : Int) (c : Int))) (bits .and .u32 (b : Int) (c : Int))) % 4294967296 = (Q : Int) := by
    have r1 := rot_lt a 2 ha
    have r2 := rot_lt a 13 ha
    have r3 := rot_lt a 22 ha
    rw [u32_xor_nat _ _ r1 r2, u32_xor_nat _ _ (xor_lt _ _ r1 r2) r3, u32_or_nat _ _ hb hc, u32_and_nat _ _ ha (or_lt _ _ hb hc), u32_and_nat _ _ hb hc, u32_or_nat _ _ (and_lt _ _ ha) (and_lt _ _ hb), maj_ref, hQ]
    unfold highS
    omega
  have hPQ : R.val = .agg #[.int .u32 (((P : Int) + (Q : Int)) % 4294967296), .int .u32 (a : Int), .int .u32 (b : Int), .int .u32 (c : Int), .int .u32 (((d : Int) + (P : Int)) % 4294967296), .int .u32 (e : Int), .int .u32 (f : Int), .int .u32 (g : Int)] := by
    rw [HR.out, hP, hQ]
    simp only [S8.val, S8.cells, roundOf, Int.natCast_emod, Int.natCast_add]
    rfl
  have HPQ := Lib.hid hPQ
  have hz : wu.heap[w.heap.size + 1]? = some (.cells zeros8.toArray 103 (0, 0)) := HE4.out.2.1
  have HZ := Lib.hid hz
  clear hP hQ hPQ hz
  go_upto_region 4 with (fail)
  simp only [Int.emod_add_emod, hp, hq]
  clear hp hq
  go_wp2_with ((with_reducible refine wpList_store_row rfl 103 (.tmp 4) (.tmp 76) rfl (w.heap.size + 1) #[.int .u32 (((P : Int) + (Q : Int)) % 4294967296), .int .u32 (a : Int), .int .u32 (b : Int), .int .u32 (c : Int), .int .u32 (((d : Int) + (P : Int)) % 4294967296), .int .u32 (e : Int), .int .u32 (f : Int), .int .u32 (g : Int)] rfl rfl 103 zeros8.toArray HZ.out (lit8 _ _ _ _ _ _ _ _).1 (lit8 _ _ _ _ _ _ _ _).2.1 (lit8 _ _ _ _ _ _ _ _).2.2 ?_))
  refine bodyPost_ret (v := R.val) ?_ rfl ⟨rfl, below_setRow HE4.out.2.2 (by omega) _⟩
  rw [HPQ.out]
  exact results_whole (ty := 103) Tryz.results108 _ _ (w.heap.size + 1) 103 [.int .u32 (((P : Int) + (Q : Int)) % 4294967296), .int .u32 (a : Int), .int .u32 (b : Int), .int .u32 (c : Int), .int .u32 (((d : Int) + (P : Int)) % 4294967296), .int .u32 (e : Int), .int .u32 (f : Int), .int .u32 (g : Int)] _ (by simp [Act.put]) (Whole.setRow HE4.out.2.1 _) Tryz.underlying103 rfl (lit8 _ _ _ _ _ _ _ _).1

/-- A literal of many parts, its cells said by the caller. -/
theorem wpList_build_to {P : Program} {ops : Array Oper} {rest : List Oper} {o : Oper} {a : Act} {w : World} {Q : Exit → Act → World → Prop} (hg : o.guard = none) (t : TypeId) (parts : Array (Nat × Operand)) (ho : o.op = .build t parts) (z : List Value)
    (hz : P.built t (parts.map fun (i, x) => (i, a.eval x)).toList = some z.toArray) (h : wpList P ops Q rest (a.put o.dst (.agg z.toArray)) w) : wpList P ops Q (o :: rest) a w :=
  wpList_build hg t parts ho (by rw [hz]; rfl) (by rw [hz]; exact h)
theorem table_size : (Tryz.prog.info? 127).map (·.size) = some (Lanes.wordsV ks).length := by kernel_rfl
theorem table_long : zeros64.length = (Lanes.wordsV ks).length := rfl

set_option maxHeartbeats 800000 in
theorem factors_any (w : World) :
    Calls Tryz.prog 106 #[] w fun e w' => e = .returned (.agg (Lanes.wordsV ks).toArray) ∧ Below w.heap.size w w' := by
  go_enter Tryz.func106, Tryz.ntmps106
  go_wp2_with ((first
    | (with_reducible refine wpList_alloc_z rfl 127 rfl zeros64 zero_info ?_)
    | (with_reducible refine wpList_build_to rfl 127 _ rfl (Lanes.wordsV ks) (by kernel_rfl) ?_)
    | (with_reducible refine wpList_store_new rfl 127 _ _ rfl _ (Lanes.wordsV ks) zeros64 rfl rfl rfl table_size table_long (all_oneCell_toArray (words_one ks)) ?_)))
  refine bodyPost_ret (v := .agg (Lanes.wordsV ks).toArray) ?_ rfl ⟨rfl, (Below.refl _ _).alloc (Nat.le_refl _) _⟩
  exact results_whole (ty := 127) Tryz.results106 _ _ w.heap.size 127 (Lanes.wordsV ks) _ (by simp [Act.put]) (Whole.made _ _ _) Tryz.underlying127 rfl table_size
end Go.Proofs.YtedgpglldlohfaaGreatDoor.RefSha

namespace Go.Proofs.YtedgpglldlohfaaGreatDoor.RefSha
open Go.RowKit Mur Sha
set_option maxRecDepth 100000

theorem ext_keeps (l : List Nat) (m j i : Nat) (h : i < (ext l m).length) : (ext l (m + j)).getD i 0 = (ext l m).getD i 0 := by
  induction j with
  | zero => rfl
  | succ j ih =>
    have hl : i < (ext l (m + j)).length := by rw [ext_length] at h ⊢; omega
    rw [← ih]
    show (ext l (m + j) ++ [next (ext l (m + j))]).getD i 0 = _
    simp only [List.getD_eq_getElem?_getD, List.getElem?_append_left hl]

theorem own_kept {w w' : World} {base n size : Nat} {e : TypeId} {v : Value} {xs : List Value} (h : w.ownsRow base e size v n xs) (hb : ∀ g, v.ownBlock = some g → w'.heap[g]? = w.heap[g]?) : w'.ownsRow base e size v n xs := by
  refine ⟨h.1, ?_⟩
  rcases h.2 with hn | ⟨g, cap, cur, rfl, h1, h2, h3⟩
  · exact .inl hn
  · exact .inr ⟨g, cap, cur, rfl, h1, by rw [hb g rfl]; exact h2, h3⟩

/-- What stands in memory between two rounds. -/
structure Laid (w0 : World) (h : S8) (g cap n : Nat) (ws : List Nat) (nF : Nat) (V : S8) (w : World) : Prop where
  hB : Whole w w0.heap.size 103 h.cells.toList
  hZ : Whole w (w0.heap.size + 1) 103 zeros8
  hF : Whole w nF 127 (Lanes.wordsV ks)
  hV : Whole w (nF + 1) 103 V.cells.toList
  own : w.ownsRow (w0.heap.size + 2) 82 1 (.slice (some ⟨g, 0, none⟩) n cap) n (Lanes.wordsV ws)
  gF : g ≠ nF
  gV : g ≠ nF + 1
  bF : w0.heap.size + 2 ≤ nF
  below : Below w0.heap.size w0 w

theorem Laid.lt {w0 w : World} {h V : S8} {g cap n nF : Nat} {ws : List Nat} (k : Laid w0 h g cap n ws nF V w) : w0.heap.size + 2 ≤ g ∧ g < w.heap.size := k.own.lt g rfl
theorem Laid.drewN {w0 w : World} {h V : S8} {g cap n nF : Nat} {ws : List Nat} (k : Laid w0 h g cap n ws nF V w) (m : Nat) : Laid w0 h g cap n ws nF V (w.drewN m) :=
  ⟨k.hB, k.hZ, k.hF, k.hV, k.own, k.gF, k.gV, k.bF, belowN k.below m⟩
theorem Laid.drew {w0 w : World} {h V : S8} {g cap n nF : Nat} {ws : List Nat} (k : Laid w0 h g cap n ws nF V w) : Laid w0 h g cap n ws nF V w.drew :=
  ⟨k.hB, k.hZ, k.hF, k.hV, k.own, k.gF, k.gV, k.bF, k.below.drew⟩
theorem Laid.next {w0 w w' : World} {h V : S8} {g cap n nF : Nat} {ws : List Nat} (k : Laid w0 h g cap n ws nF V w) (b : Below w.heap.size w w') : Laid w0 h g cap n ws nF V w' :=
  ⟨k.hB.below k.hB.lt b, k.hZ.below k.hZ.lt b, k.hF.below k.hF.lt b, k.hV.below k.hV.lt b,
    own_kept k.own (fun g' hg => b.block g' (by cases hg; exact k.lt.2)), k.gF, k.gV, k.bF, k.below.trans (b.mono k.below.size)⟩
theorem Laid.alloc {w0 w : World} {h V : S8} {g cap n nF : Nat} {ws : List Nat} (k : Laid w0 h g cap n ws nF V w) (o : Obj) : Laid w0 h g cap n ws nF V (w.alloc o) :=
  k.next ((Below.refl _ _).alloc (Nat.le_refl _) o)
theorem Whole.grown {w w' : World} {b : Nat} {t : TypeId} {vs : List Value} {row : Option Nat} (h : Whole w b t vs) (hg : w.grownBy w' row) (hn : some b ≠ row) : Whole w' b t vs := by
  show w'.heap[b]? = _
  rw [hg.block b h.lt hn]
  exact h
theorem Laid.grown {w0 w w' : World} {h V : S8} {g cap n nF g' cap' n' : Nat} {ws ws' : List Nat} (k : Laid w0 h g cap n ws nF V w) (hg : w.grownBy w' (some g))
    (hown : w'.ownsRow (w0.heap.size + 2) 82 1 (.slice (some ⟨g', 0, none⟩) n' cap') n' (Lanes.wordsV ws')) (hat : g' = g ∨ g' = w.heap.size) : Laid w0 h g' cap' n' ws' nF V w' := by
  have h1 := k.lt
  have h2 := k.gF
  have h3 := k.gV
  have h4 := k.hF.lt
  have h5 := k.hV.lt
  have h6 := k.bF
  refine ⟨Whole.grown k.hB hg (by simp; omega), Whole.grown k.hZ hg (by simp; omega), Whole.grown k.hF hg (by simp; omega), Whole.grown k.hV hg (by simp; omega), hown, by omega, by omega, h6, k.below.grown hg k.below.size (fun j hj => by cases hj; omega)⟩
theorem Whole.otherRow {w : World} {b c : Nat} {t : TypeId} {vs : List Value} (h : Whole w b t vs) (cs : Array Value) (hc : c ≠ b) : Whole (w.setRow c cs) b t vs := by
  show (w.setRow c cs).heap[b]? = _
  rw [setRow_other w c b cs (fun e => hc e.symm)]
  exact h
theorem Laid.setV {w0 w : World} {h V : S8} {g cap n nF : Nat} {ws : List Nat} (k : Laid w0 h g cap n ws nF V w) (T : S8) : Laid w0 h g cap n ws nF T (w.setRow (nF + 1) T.cells) := by
  have h6 := k.bF
  have h3 := k.gV
  refine ⟨Whole.otherRow k.hB _ (by omega), Whole.otherRow k.hZ _ (by omega), Whole.otherRow k.hF _ (by omega), ?_, own_kept k.own (fun g' hg => setRow_other w _ _ _ (by cases hg; exact h3)), k.gF, h3, h6, below_setRow k.below (by omega) _⟩
  have := Whole.setRow k.hV T.cells.toList
  simpa using this
theorem Laid.cell {w0 w : World} {h V : S8} {g cap n nF : Nat} {ws : List Nat} (k : Laid w0 h g cap n ws nF V w) (i : Nat) (hi : i < ws.length) : w.cell? ⟨g, i, none⟩ = some (.int .u32 (ws.getD i 0 : Nat)) := by
  have h1 := k.own.cells (g := g) rfl i _ (Lanes.wordsV_at hi)
  have e : (⟨g, 0, none⟩ : Addr).add i = ⟨g, i, none⟩ := by unfold Addr.add; split <;> simp_all
  rw [e] at h1
  rw [h1]
  simp [List.getD, hi]

theorem laid_cell {w0 w : World} {h V : S8} {g cap n nF : Nat} {ws : List Nat} (k : Laid w0 h g cap n ws nF V w) (hall : ∀ x ∈ ws, x < 4294967296) (i : Nat) (hi : i < ws.length) :
    ∃ x : Nat, ws.getD i 0 = x ∧ x < 4294967296 ∧ w.cell? ⟨g, i, none⟩ = some (.int .u32 (x : Int)) :=
  ⟨_, rfl, by simp only [List.getD, List.getElem?_eq_getElem hi, Option.getD_some]; exact hall _ (List.getElem_mem hi), k.cell i hi⟩

/-- An append of one word to a row of one's own: the old row's cells stay as they are. -/
theorem run_append_keeps (w : World) (t ty : TypeId) (ht : Tryz.prog.underlying t = some (.slice 82)) (base g n cap : Nat) (ws : List Nat) (y : Int)
    (hown : w.ownsRow base 82 1 (.slice (some ⟨g, 0, none⟩) n cap) n (Lanes.wordsV ws)) (a : Addr) (hnews : ∀ j u, [Value.int .u32 y][j]? = some u → w.cell? (a.add j) = some u) (hn : n ≤ 1000) (hbase : base ≤ w.heap.size) :
    ∃ g' cap' w', (Builtin.append_ #[t, t] ty #[.slice (some ⟨g, 0, none⟩) n cap, .slice (some a) 1 1]).run Tryz.prog w = .ok (.slice (some ⟨g', 0, none⟩) (n + 1) cap') w' ∧
      w'.ownsRow base 82 1 (.slice (some ⟨g', 0, none⟩) (n + 1) cap') (n + 1) (Lanes.wordsV ws ++ [.int .u32 y]) ∧ w.grownBy w' (some g) ∧ (g' = g ∨ g' = w.heap.size) ∧
      (∀ j u, (Lanes.wordsV ws)[j]? = some u → w'.cell? ⟨g, j, none⟩ = some u) := by
  obtain ⟨i0, hi, hz0, hz1, hz2⟩ := info_parts Lanes.info_u32
  have hadd : ∀ j, (⟨g, 0, none⟩ : Addr).add j = ⟨g, j, none⟩ := fun j => by unfold Addr.add; split <;> simp_all
  obtain ⟨g', cap', w', hr, h2, h3, h4, h5⟩ := run_append_lies (P := Tryz.prog) w t ty base 82 i0 (.int .u32 0) 1 4 ht hi hz0 hz1 hz2 rfl (by decide) (.slice (some ⟨g, 0, none⟩) n cap) n (Lanes.wordsV ws) hown a 1 1 [.int .u32 y] rfl hnews (RefTwo.one_cells _) (by decide)
    (by unfold maxLen; omega) (by omega) hbase w.heap.size rfl
  refine ⟨g', cap', w', hr, h2, h3, ?_, ?_⟩
  · rcases h4 with h4 | h4
    · left; cases h4; rfl
    · exact .inr h4
  · intro j u hu
    have hold := hown.cells (g := g) rfl j u hu
    rw [hadd] at hold
    rcases hown.2 with ⟨h, _⟩ | ⟨g0, c0, cur, he, hb0, hg0, hnc, hcm, hcs, htake⟩
    · cases h
    · cases he
      by_cases hroom : n + 1 ≤ cap
      · have hr2 := run_append_room (P := Tryz.prog) w t ty 82 i0 ht hi g n cap cur hg0 a 1 1 [.int .u32 y] (by rw [hz1]; rfl) hnews (RefTwo.one_cells _) hroom (by rw [hz1, hcs]; simp; omega)
        rw [hr2] at hr
        injection hr with e1 e2
        injection e1 with e3
        injection e3 with e4
        injection e4 with e5
        subst e5
        have h6 := h2.cells (g := g) rfl j u (by rw [List.getElem?_append_left (by have := (List.getElem?_eq_some_iff.1 hu).1; exact this)]; exact hu)
        rw [hadd] at h6
        exact h6
      · have hr2 := run_append_grow (P := Tryz.prog) w t ty 82 i0 (.int .u32 0) ht hi hz0 ⟨g, 0, none⟩ n cap (Lanes.wordsV ws) (by rw [hz1]; exact hown.1) (fun j v hj => hown.cells (g := g) rfl j v hj) a 1 1 [.int .u32 y] (by rw [hz1]; rfl) hnews (by omega) (by omega) (growslice_fits (by omega) (by rw [hz2]; omega))
        rw [hr2] at hr
        injection hr with e1 e2
        rw [← e2, World.cell?_of_block (w := w) (a := ⟨g, j, none⟩) (heap_alloc_old w.drew _ (hown.lt g rfl).2)]
        exact hold

theorem step_append_one {ops : Array Oper} {o : Oper} {a : Act} {K : Act → World → Prop} {Q : Exit → Act → World → Prop} {E : Prop} (hgd : o.guard = none) (s x : Operand)
    (ho : o.op = .call { callee := .builtin .append, args := #[s, x], argTypes := #[88, 88] }) (W : World) (y : Int) (base g n cap : Nat) (ws : List Nat)
    (hs : a.eval s = .slice (some ⟨g, 0, none⟩) n cap) (hx : a.eval x = .slice (some ⟨W.heap.size, 0, none⟩) 1 1) (hown : W.ownsRow base 82 1 (.slice (some ⟨g, 0, none⟩) n cap) n (Lanes.wordsV ws)) (hn : n ≤ 1000) (hbase : base ≤ W.heap.size)
    (h : ∀ g' cap' w', w'.ownsRow base 82 1 (.slice (some ⟨g', 0, none⟩) (n + 1) cap') (n + 1) (Lanes.wordsV ws ++ [.int .u32 y]) → (W.alloc (.cells #[.int .u32 y] 82)).grownBy w' (some g) → (g' = g ∨ g' = W.heap.size + 1) →
      (∀ j u, (Lanes.wordsV ws)[j]? = some u → w'.cell? ⟨g, j, none⟩ = some u) → K (a.put o.dst (.slice (some ⟨g', 0, none⟩) (n + 1) cap')) w') :
    if Region.wanted o (yielded ops a.tmps) = true then Oper.wp Tryz.prog o a (W.alloc (.cells #[.int .u32 y] 82)) K Q else E := by
  have hw : Region.wanted o (yielded ops a.tmps) = true := by simp [Region.wanted, hgd]
  rw [if_pos hw]
  obtain ⟨g', cap', w', hr, h2, h3, h4, h5⟩ := run_append_keeps (W.alloc (.cells #[.int .u32 y] 82)) 88 o.type Tryz.underlying88 base g n cap ws y (hown.alloc _) ⟨W.heap.size, 0, none⟩ (RefTwo.one_new _ _ _) hn (by simp; omega)
  unfold Oper.wp execOp
  simp only [ho, resolve, invoke, builtin, Sem.run_bind, Sem.run_pure, Result.andThen_ok, List.map_toArray, List.map_cons, List.map_nil, hs, hx, hr]
  exact h g' cap' w' h2 h3 (by simpa using h4) h5

theorem round_call (v T : S8) (y x : Nat) (u : World) (hv : v.Ok) (hT : T = roundOf v ((x + y) % 4294967296)) :
    Calls Tryz.prog 108 #[.agg #[.int .u32 (v.a : Int), .int .u32 (v.b : Int), .int .u32 (v.c : Int), .int .u32 (v.d : Int), .int .u32 (v.e : Int), .int .u32 (v.f : Int), .int .u32 (v.g : Int), .int .u32 (v.h : Int)], .int .u32 (((y : Int) + (x : Int)) % 4294967296)] u
      fun e w' => e = .returned (.agg #[.int .u32 (T.a : Int), .int .u32 (T.b : Int), .int .u32 (T.c : Int), .int .u32 (T.d : Int), .int .u32 (T.e : Int), .int .u32 (T.f : Int), .int .u32 (T.g : Int), .int .u32 (T.h : Int)]) ∧ Below u.heap.size u w' := by
  subst hT
  have := round_any v ((x + y) % 4294967296) u hv
  rw [Nat.add_comm x y, Int.natCast_emod, Int.natCast_add] at this
  rw [Nat.add_comm x y]
  exact this

/-- The eight sums, the first k of them laid. -/
def sums (h V : S8) (k : Nat) : List Nat := (List.range 8).map fun j => if j < k then (h.list.getD j 0 + V.list.getD j 0) % 4294967296 else h.list.getD j 0
theorem sums_zero (h V : S8) : sums h V 0 = h.list := rfl
theorem sums_end (h V : S8) : sums h V 8 = (add8 h V).list := rfl
theorem sums_length (h V : S8) (k : Nat) : (sums h V k).length = 8 := by simp [sums]
theorem sums_at (h V : S8) (k : Nat) (hk : k < 8) : (sums h V k)[k]? = some (h.list.getD k 0) := by simp [sums, hk]
theorem sums_set (h V : S8) (k : Nat) : (sums h V k).set k ((h.list.getD k 0 + V.list.getD k 0) % 4294967296) = sums h V (k + 1) := by
  apply List.ext_getElem (by simp [sums])
  intro i h1 h2
  rw [List.getElem_set]
  by_cases e : k = i
  · subst e
    simp [sums]
  · have e1 : (i < k + 1) = (i < k) := by simp only [eq_iff_iff]; omega
    simp only [sums, List.getElem_map, List.getElem_range, e1, e, if_false]
theorem cells_list (h : S8) : h.cells.toList = Lanes.wordsV h.list := rfl
end Go.Proofs.YtedgpglldlohfaaGreatDoor.RefSha

namespace Go.Proofs.YtedgpglldlohfaaGreatDoor.RefSha
open Go.RowKit Mur Sha
set_option maxRecDepth 100000

theorem laid_start (w w1 w2 : World) (h : S8) (v : Value) (ws : List Nat)
    (ho : w1.ownsRow ((w.alloc (.cells h.cells 103)).alloc (.cells zeros8.toArray 103)).heap.size 82 1 v 16 (Lanes.wordsV ws))
    (hb1 : Below ((w.alloc (.cells h.cells 103)).alloc (.cells zeros8.toArray 103)).heap.size ((w.alloc (.cells h.cells 103)).alloc (.cells zeros8.toArray 103)) w1) (hb2 : Below w1.heap.size w1 w2) :
    ∃ g cap, v = .slice (some ⟨g, 0, none⟩) 16 cap ∧ Whole (w2.alloc (.cells (Lanes.wordsV ks).toArray 127)) w.heap.size 103 h.cells.toList ∧
      Laid w h g cap 16 ws w2.heap.size h ((w2.alloc (.cells (Lanes.wordsV ks).toArray 127)).alloc (.cells h.cells 103)) := by
  have hz : ((w.alloc (.cells h.cells 103)).alloc (.cells zeros8.toArray 103)).heap.size = w.heap.size + 2 := by simp
  have hA : Whole ((w.alloc (.cells h.cells 103)).alloc (.cells zeros8.toArray 103)) w.heap.size 103 h.cells.toList := (Whole.made' w _ h.cells _ rfl).alloc _
  have hB : Whole ((w.alloc (.cells h.cells 103)).alloc (.cells zeros8.toArray 103)) (w.heap.size + 1) 103 zeros8 := Whole.made' _ _ zeros8.toArray _ (by simp)
  have hbel : Below w.heap.size w ((w.alloc (.cells h.cells 103)).alloc (.cells zeros8.toArray 103)) := ((Below.refl _ _).alloc (Nat.le_refl _) _).alloc (by simp) _
  rw [hz] at ho
  obtain ⟨g, cap, rfl, _, hlt⟩ := ho.form (by omega)
  have hz1 := hb1.size
  have hz2 := hb2.size
  rw [hz] at hz1
  have hbel2 := (hbel.trans (hb1.mono (by omega))).trans (hb2.mono (by omega))
  have hA2 := ((hA.below (by omega) hb1).below (by omega) hb2).alloc (.cells (Lanes.wordsV ks).toArray 127)
  have hB2 := ((hB.below (by omega) hb1).below (by omega) hb2).alloc (.cells (Lanes.wordsV ks).toArray 127)
  have hF : Whole (w2.alloc (.cells (Lanes.wordsV ks).toArray 127)) w2.heap.size 127 (Lanes.wordsV ks) := Whole.made _ _ _
  have how := own_kept ho (fun g' hg => hb2.block g' (by cases hg; exact hlt))
  refine ⟨g, cap, rfl, hA2, hA2.alloc _, hB2.alloc _, hF.alloc _, Whole.made' _ _ h.cells _ (by simp), (how.alloc _).alloc _, by omega, by omega, by omega, ?_⟩
  exact (hbel2.alloc (by omega) _).alloc (by simp; omega) _

set_option maxHeartbeats 1600000 in
theorem block_any (h : S8) (b : ByteArray) (w : World) (hh : h.Ok) (hb : b.size = 64) :
    Calls Tryz.prog 97 #[h.val, .string b] w fun e w' => e = .returned (blockOf h b.data.toList).val ∧ Below w.heap.size w w' := by
  have hd : ((b.size : Int) != 64) = false := by simp; omega
  obtain ⟨V64, hV64⟩ : ∃ V, V = wordsOf b.data.toList := ⟨_, rfl⟩
  obtain ⟨R, hR⟩ : ∃ R, R = blockOf h b.data.toList := ⟨_, rfl⟩
  have hR2 : R = add8 h (rounds V64 h 64) := by rw [hR, hV64]; rfl
  have hword : ∀ u, Calls Tryz.prog 94 #[.string b, .bool true] u fun e w' => ∃ v, e = .returned v ∧ w'.ownsRow u.heap.size 82 1 v (b.size / 4) (Lanes.wordsV (Lanes.words b.data.toList true)) ∧ Below u.heap.size u w' := fun u => RefTwo.words_own b true u (by omega)
  rw [← hR]
  have h16 : b.size / 4 = 16 := by omega
  have hlen : (Lanes.words b.data.toList true).length = 16 := by rw [Lanes.words_length]; show b.size / 4 = 16; exact h16
  have hlt0 : ∀ x ∈ Lanes.words b.data.toList true, x < 4294967296 := Lanes.words_lt _ _
  have hw0 : V64 = ext (Lanes.words b.data.toList true) 48 := hV64
  rw [h16] at hword
  generalize Lanes.words b.data.toList true = ws at *
  have HL := Lib.hid hlen
  have HLT := Lib.hid hlt0
  have HW0 := Lib.hid hw0
  have HR := Lib.hid hR2
  have HH := Lib.hid hh
  have HWC := Lib.hid hword
  clear hV64 hR hR2 hh hlen hlt0 hw0 hword h16 hb
  have hvv : h.val = .agg h.cells := rfl
  rw [hvv]
  clear hvv
  have hcl : h.cells = #[.int .u32 (h.a : Int), .int .u32 (h.b : Int), .int .u32 (h.c : Int), .int .u32 (h.d : Int), .int .u32 (h.e : Int), .int .u32 (h.f : Int), .int .u32 (h.g : Int), .int .u32 (h.h : Int)] := rfl
  rw [hcl]
  clear hcl
  go_enter Tryz.func97, Tryz.ntmps97
  go_upto_region 5 with ((first
    | (go_at_call 94; refine (HWC.out _).mono ?_; rintro e w1 ⟨v, rfl, ho1, hb1⟩)
    | (go_at_call 106; refine (factors_any _).mono ?_; rintro e w2 ⟨rfl, hb2⟩)
    | (with_reducible refine wpList_alloc_z rfl 127 rfl zeros64 zero_info ?_)
    | (with_reducible refine wpList_store_new rfl 127 _ _ rfl _ (Lanes.wordsV ks) zeros64 rfl rfl rfl table_size table_long (all_oneCell_toArray (words_one ks)) ?_)))
  obtain ⟨g, cap, rfl, hW, hlaid⟩ := laid_start w w1 w2 h v ws ho1 hb1 hb2
  clear ho1 hb1
  have HE := Lib.hid hlaid
  clear hlaid
  obtain ⟨c0, c1, c2, c3, c4, c5, c6, c7⟩ := whole_cells hW
  clear hW
  go_upto_region 6 with (fail)
  clear c0 c1 c2 c3 c4 c5 c6 c7
  have HE1 : Hid (Laid w h g cap 16 ws w2.heap.size h ((w2.alloc (.cells (Lanes.wordsV ks).toArray 127)).alloc (.cells #[.int .u32 (h.a : Int), .int .u32 (h.b : Int), .int .u32 (h.c : Int), .int .u32 (h.d : Int), .int .u32 (h.e : Int), .int .u32 (h.f : Int), .int .u32 (h.g : Int), .int .u32 (h.h : Int)] 103))) := HE
  clear HE hb2
  go_simp
  generalize (w2.alloc (.cells (Lanes.wordsV ks).toArray 127)).alloc (.cells #[.int .u32 (h.a : Int), .int .u32 (h.b : Int), .int .u32 (h.c : Int), .int .u32 (h.d : Int), .int .u32 (h.e : Int), .int .u32 (h.f : Int), .int .u32 (h.g : Int), .int .u32 (h.h : Int)] 103) = wx at *
  generalize w2.heap.size = nF at *
  go_wp2
  go_loopw [5, 20] (fun v i wr => ∃ (k n g cap : Nat), k ≤ 64 ∧ n = max 16 k ∧ i = .int .i64 k ∧ v = .slice (some ⟨g, 0, none⟩) n cap ∧ Laid w h g cap n (ext ws (n - 16)) nF (rounds V64 h k) wr) (fun _ i _ => 64 - (intOf i).toNat)
  case atStart => exact ⟨0, 16, g, cap, by omega, by omega, rfl, rfl, HE1.out⟩
  case round =>
    clear HE1
    skip
    obtain ⟨k, n, q, cq, hk, hn, rfl, rfl, hlaid⟩ := hrel
    have hok := rounds_ok V64 h HH.out k
    by_cases hlt : k < 64
    · have hd2 : decide ((k : Int) < 64) = true := by simp; omega
      by_cases h15 : 15 < k
      · have hd3 : decide ((15 : Int) < (k : Int)) = true := by simp; omega
        obtain rfl : k = n := by omega
        have hlen : (ext ws (k - 16)).length = k := by rw [ext_length, HL.out]; omega
        have hall := ext_lt ws HLT.out (k - 16)
        have hext : ext ws (k + 1 - 16) = ext ws (k - 16) ++ [next (ext ws (k - 16))] := by
          have e : k + 1 - 16 = (k - 16) + 1 := by omega
          rw [e]; rfl
        have hq := hlaid.lt
        have HQ0 := Lib.hid hlaid
        have hb0 := hlaid.below.size
        clear hlaid
        generalize hlg : ext ws (k - 16) = l at *
        obtain ⟨x15, hx15, hl15, hc15⟩ := laid_cell HQ0.out hall (k - 15) (by omega)
        obtain ⟨x2, hx2, hl2, hc2⟩ := laid_cell HQ0.out hall (k - 2) (by omega)
        obtain ⟨x16, hx16, hl16, hc16⟩ := laid_cell HQ0.out hall (k - 16) (by omega)
        obtain ⟨x7, hx7, hl7, hc7⟩ := laid_cell HQ0.out hall (k - 7) (by omega)
        have ho16 : (Lanes.wordsV l)[k - 16]? = some (.int .u32 (x16 : Int)) := by
          rw [Lanes.wordsV_at (by omega), ← hx16]; simp [List.getD, show k - 16 < l.length by omega]
        have ho7 : (Lanes.wordsV l)[k - 7]? = some (.int .u32 (x7 : Int)) := by
          rw [Lanes.wordsV_at (by omega), ← hx7]; simp [List.getD, show k - 7 < l.length by omega]
        have hnext : next l = (x16 + x7 + sigA x15 + sigB x2) % 4294967296 := by unfold next; rw [hlen, hx15, hx2, hx16, hx7]
        have HN0 := Lib.hid hnext
        have HX := Lib.hid hext
        have HOK := Lib.hid hok
        have HO16 := Lib.hid ho16
        have HO7 := Lib.hid ho7
        have T7 := Lib.hid (fun W => turn_q x15 7 7 W rfl hl15 (by omega) (by omega))
        have T18 := Lib.hid (fun W => turn_q x15 18 18 W rfl hl15 (by omega) (by omega))
        have T17 := Lib.hid (fun W => turn_q x2 17 17 W rfl hl2 (by omega) (by omega))
        have T19 := Lib.hid (fun W => turn_q x2 19 19 W rfl hl2 (by omega) (by omega))
        have HLG := Lib.hid hlg
        clear hlg hnext hext hok hx15 hx2 hx16 hx7 hall hlen ho16 ho7 hn
        go_upto_region 10 with (fail)
        have w15 : IntKind.i64.wrap ((k : Int) - 15) = (k : Int) - 15 := IntWalk.i64_in _ (by omega)
        have v15 : ((k : Int) - 15).toNat = k - 15 := by omega
        have p15 : 0 ≤ (k : Int) - 15 := by omega
        have r15 : (15 : Int) ≤ (k : Int) := by omega
        have w2 : IntKind.i64.wrap ((k : Int) - 2) = (k : Int) - 2 := IntWalk.i64_in _ (by omega)
        have v2 : ((k : Int) - 2).toNat = k - 2 := by omega
        have p2 : 0 ≤ (k : Int) - 2 := by omega
        have r2 : (2 : Int) ≤ (k : Int) := by omega
        have z0 : (0 : Int) < (k : Int) := by omega
        go_quiet (fail)
        clear w15 v15 p15 r15 w2 v2 p2 r2 hc15 hc2
        go_upto_region 11 with (fail)
        have hc16' : (wr.drewN nq).cell? ⟨q, k - 16, none⟩ = some (.int .u32 (x16 : Int)) := hc16
        have hc7' : (wr.drewN nq).cell? ⟨q, k - 7, none⟩ = some (.int .u32 (x7 : Int)) := hc7
        have HQ1 := Lib.hid (HQ0.out.drewN nq)
        have hq' : q < (wr.drewN nq).heap.size := hq.2
        have hb0' : w.heap.size ≤ (wr.drewN nq).heap.size := hb0
        clear hc16 hc7 HQ0 hq hb0
        generalize wr.drewN nq = wy at *
        have w16 : IntKind.i64.wrap ((k : Int) - 16) = (k : Int) - 16 := IntWalk.i64_in _ (by omega)
        have v16 : ((k : Int) - 16).toNat = k - 16 := by omega
        have p16 : 0 ≤ (k : Int) - 16 := by omega
        have r16 : (16 : Int) ≤ (k : Int) := by omega
        have w7 : IntKind.i64.wrap ((k : Int) - 7) = (k : Int) - 7 := IntWalk.i64_in _ (by omega)
        have v7 : ((k : Int) - 7).toNat = k - 7 := by omega
        have p7 : 0 ≤ (k : Int) - 7 := by omega
        have r7 : (7 : Int) ≤ (k : Int) := by omega
        have b16 : (k : Int) - 16 < (k : Int) := by omega
        have b7 : (k : Int) - 7 < (k : Int) := by omega
        have HQ2 := Lib.hid HQ1.out.drew
        go_region_held3 (fun w' => w'.cell? ⟨q, k - 16, none⟩ = some (.int .u32 (x16 : Int)) ∧ w'.cell? ⟨q, k - 7, none⟩ = some (.int .u32 (x7 : Int)))
          (first | exact ⟨hc16', hc7'⟩ | assumption | exact ⟨hkeep _ _ HO16.out, hkeep _ _ HO7.out⟩ | exact ⟨(World.cell?_alloc_lt _ _ _ hq').trans hc16', (World.cell?_alloc_lt _ _ _ hq').trans hc7'⟩)
          (first
            | (go_at_call 107; with_reducible refine Calls.mono (T7.out _) ?_; rintro e w' ⟨rfl, rfl⟩)
            | (go_at_call 107; with_reducible refine Calls.mono (T18.out _) ?_; rintro e w' ⟨rfl, rfl⟩)
            | (go_at_call 107; with_reducible refine Calls.mono (T17.out _) ?_; rintro e w' ⟨rfl, rfl⟩)
            | (go_at_call 107; with_reducible refine Calls.mono (T19.out _) ?_; rintro e w' ⟨rfl, rfl⟩)
            | (refine step_append_one (by rfl) _ _ (by rfl) wy.drew _ (w.heap.size + 2) q k cq l (by rfl) (by rfl) HQ2.out.own (by omega) (by have := HQ2.out.own.lt q rfl; omega) ?_; intro g' cap' w5 hown5 hgrow5 hat5 hkeep))
        have hv : IntKind.u32.wrap (IntKind.u32.wrap (IntKind.u32.wrap ((x16 : Int) + (x7 : Int)) + (sigA x15 : Int)) + (sigB x2 : Int)) = (next l : Int) := by rw [HN0.out]; simp only [IntKind.wrap_u32]; omega
        rw [sigA_int x15 hl15, sigB_int x2 hl2, hv] at hown5 hgrow5
        have hown6 : w5.ownsRow (w.heap.size + 2) 82 1 (.slice (some ⟨g', 0, none⟩) (k + 1) cap') (k + 1) (Lanes.wordsV (ext ws (k + 1 - 16))) := by
          rw [HX.out]
          simpa [Lanes.wordsV] using hown5
        have HQ := Lib.hid ((HQ2.out.alloc _).grown hgrow5 hown6 (by simpa using hat5))
        have hok := HOK.out
        clear hv hown5 hown6 hgrow5 hat5 hkeep hc16' hc7' w16 v16 p16 r16 w7 v7 p7 r7 b16 b7 hq' hb0' HQ1 HQ2 hl15 hl2 hl16 hl7 z0
        generalize w5 = wc at *
        have hl9 : k < (ext ws ((k + 1) - 16)).length := by rw [ext_length, HL.out]; omega
        have hl8 : k < ks.length := by show k < 64; omega
        have hx : (ext ws ((k + 1) - 16)).getD k 0 = V64.getD k 0 := by
          have e1 := ext_keeps ws ((k + 1) - 16) (64 - (k + 1)) k hl9
          have e2 : (k + 1) - 16 + (64 - (k + 1)) = 48 := by omega
          rw [e2] at e1
          rw [HW0.out, e1]
        have hcx := HQ.out.cell k hl9
        rw [hx] at hcx
        have hcf : wc.cell? ⟨nF, k, none⟩ = some (.int .u32 (ks.getD k 0 : Nat)) := by
          rw [HQ.out.hF.row.cell (Lanes.wordsV_at hl8)]
          simp [List.getD, hl8]
        have hcv := whole_cells HQ.out.hV
        obtain ⟨T, hT⟩ : ∃ T, T = rounds V64 h (k + 1) := ⟨_, rfl⟩
        have hT2 : T = roundOf (rounds V64 h k) ((V64.getD k 0 + ks.getD k 0) % 4294967296) := hT
        have hrc := fun u => round_call (rounds V64 h k) T (ks.getD k 0) (V64.getD k 0) u hok hT2
        have HT := Lib.hid hT
        clear hx hl9 hl8 hT hT2 hok
        generalize rounds V64 h k = U at *
        generalize V64.getD k 0 = x at *
        generalize ks.getD k 0 = y at *
        obtain ⟨va, vb, vc, vd, ve, vf, vg, vh⟩ := U
        dsimp only at hcv hrc
        obtain ⟨c0, c1, c2, c3, c4, c5, c6, c7⟩ := hcv
        have HRC := Lib.hid hrc
        clear hrc
        go_upto_region 12 with (fail)
        have r0 : (k : Int) < 64 := by omega
        have r1 : (k : Int) < (k : Int) + 1 := by omega
        have v0 : (k : Int).toNat = k := by omega
        
        go_still_tail 9, (by kernel_rfl)
        change wpList _ _ _ _ _ wc.drew
        clear c0 c1 c2 c3 c4 c5 c6 c7 hcx hcf v0
        go_wp2_with ((first
          | (go_at_call 108; (refine Calls.mono (HRC.out _) ?_; rintro e w5 ⟨rfl, hb5⟩; have HQ5 := Lib.hid (HQ.out.drew.next hb5); have HV5 := Lib.hid (show w5.heap[nF + 1]? = some (.cells (⟨va, vb, vc, vd, ve, vf, vg, vh⟩ : S8).cells.toList.toArray 103 (0, 0)) from HQ5.out.hV)))
          | (with_reducible refine wpList_store_row rfl 103 (.tmp 7) (.tmp 76) rfl (nF + 1) #[.int .u32 (T.a : Int), .int .u32 (T.b : Int), .int .u32 (T.c : Int), .int .u32 (T.d : Int), .int .u32 (T.e : Int), .int .u32 (T.f : Int), .int .u32 (T.g : Int), .int .u32 (T.h : Int)] rfl rfl 103 _ HV5.out (lit8 _ _ _ _ _ _ _ _).1 rfl (lit8 _ _ _ _ _ _ _ _).2.2 ?_)))
        go_roundw
        case rel => exact ⟨k + 1, (k + 1), g', cap', by omega, by omega, by go_num, rfl, by rw [← HT.out]; exact HQ5.out.setV T⟩
        case measure => simp [intOf]; omega
      · have hd3 : decide ((15 : Int) < (k : Int)) = false := by simp; omega
        obtain rfl : n = 16 := by omega
        have HQ := Lib.hid hlaid
        clear hlaid hn
        obtain ⟨wc, rfl⟩ : ∃ wc : World, wc = wr := ⟨_, rfl⟩
        have hl9 : k < (ext ws (16 - 16)).length := by rw [ext_length, HL.out]; omega
        have hl8 : k < ks.length := by show k < 64; omega
        have hx : (ext ws (16 - 16)).getD k 0 = V64.getD k 0 := by
          have e1 := ext_keeps ws (16 - 16) (64 - 16) k hl9
          have e2 : 16 - 16 + (64 - 16) = 48 := by omega
          rw [e2] at e1
          rw [HW0.out, e1]
        have hcx := HQ.out.cell k hl9
        rw [hx] at hcx
        have hcf : wc.cell? ⟨nF, k, none⟩ = some (.int .u32 (ks.getD k 0 : Nat)) := by
          rw [HQ.out.hF.row.cell (Lanes.wordsV_at hl8)]
          simp [List.getD, hl8]
        have hcv := whole_cells HQ.out.hV
        obtain ⟨T, hT⟩ : ∃ T, T = rounds V64 h (k + 1) := ⟨_, rfl⟩
        have hT2 : T = roundOf (rounds V64 h k) ((V64.getD k 0 + ks.getD k 0) % 4294967296) := hT
        have hrc := fun u => round_call (rounds V64 h k) T (ks.getD k 0) (V64.getD k 0) u hok hT2
        have HT := Lib.hid hT
        clear hx hl9 hl8 hT hT2 hok
        generalize rounds V64 h k = U at *
        generalize V64.getD k 0 = x at *
        generalize ks.getD k 0 = y at *
        obtain ⟨va, vb, vc, vd, ve, vf, vg, vh⟩ := U
        dsimp only at hcv hrc
        obtain ⟨c0, c1, c2, c3, c4, c5, c6, c7⟩ := hcv
        have HRC := Lib.hid hrc
        clear hrc
        go_upto_region 12 with (fail)
        have r0 : (k : Int) < 64 := by omega
        have r1 : (k : Int) < 16 := by omega
        have v0 : (k : Int).toNat = k := by omega
        
        go_still_tail 9, (by kernel_rfl)
        change wpList _ _ _ _ _ wc.drew
        clear c0 c1 c2 c3 c4 c5 c6 c7 hcx hcf v0
        go_wp2_with ((first
          | (go_at_call 108; (refine Calls.mono (HRC.out _) ?_; rintro e w5 ⟨rfl, hb5⟩; have HQ5 := Lib.hid (HQ.out.drew.next hb5); have HV5 := Lib.hid (show w5.heap[nF + 1]? = some (.cells (⟨va, vb, vc, vd, ve, vf, vg, vh⟩ : S8).cells.toList.toArray 103 (0, 0)) from HQ5.out.hV)))
          | (with_reducible refine wpList_store_row rfl 103 (.tmp 7) (.tmp 76) rfl (nF + 1) #[.int .u32 (T.a : Int), .int .u32 (T.b : Int), .int .u32 (T.c : Int), .int .u32 (T.d : Int), .int .u32 (T.e : Int), .int .u32 (T.f : Int), .int .u32 (T.g : Int), .int .u32 (T.h : Int)] rfl rfl 103 _ HV5.out (lit8 _ _ _ _ _ _ _ _).1 rfl (lit8 _ _ _ _ _ _ _ _).2.2 ?_)))
        go_roundw
        case rel => exact ⟨k + 1, 16, q, cq, by omega, by omega, by go_num, rfl, by rw [← HT.out]; exact HQ5.out.setV T⟩
        case measure => simp [intOf]; omega
    · have hd2 : decide ((k : Int) < 64) = false := by simp; omega
      obtain rfl : k = 64 := by omega
      have HQ := Lib.hid hlaid
      clear hlaid hok hn
      generalize rounds V64 h 64 = U at *
      obtain ⟨wo, rfl⟩ : ∃ wo : World, wo = wr := ⟨_, rfl⟩
      go_wp2
      go_loopw [78] (fun i wq => ∃ j : Nat, j ≤ 8 ∧ i = .int .i64 j ∧ Whole wq w.heap.size 103 (Lanes.wordsV (sums h U j)) ∧ Whole wq (w.heap.size + 1) 103 zeros8 ∧ Whole wq (nF + 1) 103 (Lanes.wordsV U.list) ∧ Below w.heap.size w wq) (fun i _ => 8 - (intOf i).toNat)
      case atStart => exact ⟨0, by omega, rfl, HQ.out.hB, HQ.out.hZ, HQ.out.hV, HQ.out.below⟩
      case round =>
        obtain ⟨j, hj, rfl, hB, hZ, hV, hbel⟩ := hrel
        have hnF := HQ.out.bF
        by_cases hj8 : j < 8
        · have hd4 : decide ((j : Int) < 8) = true := by simp; omega
          have hs8 : j < (sums h U j).length := by rw [sums_length]; exact hj8
          have hu8 : j < U.list.length := hj8
          have hcB : wr.cell? ⟨w.heap.size, j, none⟩ = some (.int .u32 (h.list.getD j 0 : Nat)) := hB.row.cell (by simp [Lanes.wordsV, sums_at h U j hj8])
          have hfB : wr.frozen? ⟨w.heap.size, j, none⟩ = false := hB.row.free (by rw [Lanes.wordsV_length]; exact hs8)
          have hcV : wr.cell? ⟨nF + 1, j, none⟩ = some (.int .u32 (U.list.getD j 0 : Nat)) := by
            rw [hV.row.cell (Lanes.wordsV_at hu8)]
            simp [List.getD, hu8]
          have hset := hB.set j (.int .u32 (((h.list.getD j 0 + U.list.getD j 0) % 4294967296 : Nat) : Int))
          rw [Lanes.wordsV_set, sums_set] at hset
          have HS := Lib.hid hset
          have HZ := Lib.hid hZ
          have HV := Lib.hid hV
          have HB := Lib.hid hbel
          clear hset hZ hV hB hbel hs8 hu8
          generalize h.list.getD j 0 = x at *
          generalize U.list.getD j 0 = y at *
          go_upto_region 17 with (fail)
          have r0 : (j : Int) < 8 := by omega
          have v0 : (j : Int).toNat = j := by omega
          go_still_tail 8, (by kernel_rfl)
          change wpList _ _ _ _ _ wr.drew
          have hcd : wr.drew.cell? ⟨w.heap.size, j, none⟩ = some (.int .u32 (x : Int)) := hcB
          have hfd : wr.drew.frozen? ⟨w.heap.size, j, none⟩ = false := hfB
          clear hcB hfB hcV v0
          go_wp2
          go_roundw
          case rel =>
            have hv : ((x : Int) + (y : Int)) % 4294967296 = (((x + y) % 4294967296 : Nat) : Int) := by omega
            rw [hv]
            refine ⟨_, _, _, _, _, _, _, _, _, _, _, _, _, ⟨j + 1, by omega, ?_, HS.out.drew, (HZ.out.other w.heap.size j _ (by omega)).drew, (HV.out.other w.heap.size j _ (by omega)).drew, (HB.out.setCell (p := ⟨w.heap.size, j, none⟩) (Nat.le_refl _) _).drew⟩, rfl⟩
            go_num
          case measure => simp [intOf]; omega
        · have hd4 : decide ((j : Int) < 8) = false := by simp; omega
          obtain rfl : j = 8 := by omega
          rw [sums_end, ← HR.out] at hB
          have hB' : Whole wr w.heap.size 103 R.cells.toList := hB
          obtain ⟨c0, c1, c2, c3, c4, c5, c6, c7⟩ := whole_cells hB'
          have HZ2 := Lib.hid (show wr.heap[w.heap.size + 1]? = some (.cells zeros8.toArray 103 (0, 0)) from hZ)
          have HZ := Lib.hid hZ
          have HB := Lib.hid hbel
          clear hZ hV hbel hB hB'
          go_wp2_with ((with_reducible refine wpList_store_row rfl 103 (.tmp 4) (.tmp 90) rfl (w.heap.size + 1) #[.int .u32 (R.a : Int), .int .u32 (R.b : Int), .int .u32 (R.c : Int), .int .u32 (R.d : Int), .int .u32 (R.e : Int), .int .u32 (R.f : Int), .int .u32 (R.g : Int), .int .u32 (R.h : Int)] rfl rfl 103 zeros8.toArray HZ2.out (lit8 _ _ _ _ _ _ _ _).1 (lit8 _ _ _ _ _ _ _ _).2.1 (lit8 _ _ _ _ _ _ _ _).2.2 ?_))
          refine bodyPost_ret (v := R.val) ?_ rfl ⟨rfl, below_setRow HB.out (by omega) _⟩
          exact results_whole (ty := 103) Tryz.results97 _ _ (w.heap.size + 1) 103 [.int .u32 (R.a : Int), .int .u32 (R.b : Int), .int .u32 (R.c : Int), .int .u32 (R.d : Int), .int .u32 (R.e : Int), .int .u32 (R.f : Int), .int .u32 (R.g : Int), .int .u32 (R.h : Int)] _ (by simp [Act.put]) (Whole.setRow HZ.out _) Tryz.underlying103 rfl (lit8 _ _ _ _ _ _ _ _).1
end Go.Proofs.YtedgpglldlohfaaGreatDoor.RefSha

namespace Go.Proofs.YtedgpglldlohfaaGreatDoor.RefSha
open Go.RowKit Mur Sha
set_option maxRecDepth 100000

theorem start_lit (w : World) :
    Calls Tryz.prog 96 #[] w fun e w' => e = .returned (.agg #[.int .u32 1779033703, .int .u32 3144134277, .int .u32 1013904242, .int .u32 2773480762, .int .u32 1359893119, .int .u32 2600822924, .int .u32 528734635, .int .u32 1541459225]) ∧ Below w.heap.size w w' := start_any w
theorem start_ok : Sha.start.Ok := by unfold S8.Ok Sha.start; decide
theorem block_call (h T : S8) (s : ByteArray) (u : World) (hh : h.Ok) (hs : s.size = 64) (hT : T = blockOf h s.data.toList) :
    Calls Tryz.prog 97 #[.agg #[.int .u32 (h.a : Int), .int .u32 (h.b : Int), .int .u32 (h.c : Int), .int .u32 (h.d : Int), .int .u32 (h.e : Int), .int .u32 (h.f : Int), .int .u32 (h.g : Int), .int .u32 (h.h : Int)], .string s] u
      fun e w' => e = .returned (.agg #[.int .u32 (T.a : Int), .int .u32 (T.b : Int), .int .u32 (T.c : Int), .int .u32 (T.d : Int), .int .u32 (T.e : Int), .int .u32 (T.f : Int), .int .u32 (T.g : Int), .int .u32 (T.h : Int)]) ∧ Below u.heap.size u w' := by
  subst hT
  exact block_any h s u hh hs
theorem extract_mid (t : ByteArray) (i : Nat) : (t.extract i (i + 64)).data.toList = (t.data.toList.drop i).take 64 := by
  simp only [ByteArray.data_extract, Array.toList_extract, List.extract_eq_take_drop]
  congr 1
  omega
theorem made_bytes (u : World) (F : Nat) : Row (u.alloc (.cells (madeCells #[.int .u8 0] F) 5)) u.heap.size (bytesV (List.replicate F 0)) := by
  rw [← Lanes.zero_bytes]
  exact Lanes.made_row _ _ _ _

set_option maxHeartbeats 1600000 in
theorem of_any (s : ByteArray) (w : World) (hs : s.size ≤ 1000000) :
    Calls Tryz.prog 81 #[.string s] w fun e w' => e = .returned (.string ⟨(sha s.data.toList).toArray⟩) ∧ Below w.heap.size w w' := by
  have hl : s.data.toList.length = s.size := rfl
  obtain ⟨F, hF⟩ : ∃ F, F = fillOf (s.size % 64) := ⟨_, rfl⟩
  have hF63 : F ≤ 63 ∧ (s.size + 1 + F) % 64 = 56 := by
    unfold fillOf at hF
    exact ⟨by omega, by omega⟩
  have hFi : (63 : Int) - ((s.size : Int) + 8) % 64 = (F : Int) := by unfold fillOf at hF; omega
  have hF0 := hF63.1
  obtain ⟨H, hH⟩ : ∃ H : ByteArray, H = ⟨(Lanes.high (s.size * 8) (Lanes.widthOf 8)).toArray⟩ := ⟨_, rfl⟩
  have hHs : H.size = 8 := by rw [hH]; show (Lanes.high (s.size * 8) (Lanes.widthOf 8)).length = 8; simp only [Lanes.high, List.length_map, List.length_range]; rfl
  have hcH : ∀ u, Calls Tryz.prog 46 #[.int .u64 ((s.size : Int) * 8), .int .i64 8] u fun e w' => e = .returned (.string H) ∧ Below u.heap.size u w' := fun u => by
    have := RefOne.high_any (s.size * 8) 8 u (by omega) (by omega) (by omega)
    rw [Int.natCast_mul] at this
    rw [hH]
    exact this
  obtain ⟨Z, hZ⟩ : ∃ Z : ByteArray, Z = ⟨(List.replicate F (0 : UInt8)).toArray⟩ := ⟨_, rfl⟩
  have hZs : Z.size = F := by rw [hZ]; show (List.replicate F (0 : UInt8)).length = F; simp
  obtain ⟨P, hP⟩ : ∃ P : ByteArray, P = s ++ ⟨#[128]⟩ ++ Z ++ H := ⟨_, rfl⟩
  have hPs : P.size = s.size + 1 + F + 8 := by rw [hP]; simp only [ByteArray.size_append, hZs, hHs]; rfl
  have hPl : P.data.toList = s.data.toList ++ tail (s.size % 64) s.size := by
    have e8 : s.size * 8 = 8 * s.size % 18446744073709551616 := by omega
    rw [hP]
    simp only [ByteArray.data_append, Array.toList_append, hZ, hH, tail, ← hF, List.append_assoc]
    rw [e8]
    rfl
  have hP64 : P.size % 64 = 0 := by omega
  have hsha : sha s.data.toList = Lanes.text (blocksOf Sha.start P.data.toList (P.size / 64)).list true := by
    have e : P.size = s.data.toList.length + (tail (s.data.toList.length % 64) s.data.toList.length).length := by
      have e1 : P.data.toList.length = P.size := rfl
      rw [← e1, hPl, List.length_append, hl]
    rw [sha, finish_whole, ← e, hl, hPl]
  have hmk : ∀ u : World, (Instr.makeSlice 49 (.int .i64 (F : Int)) (.int .i64 (F : Int))).run Tryz.prog u = .ok (.slice (some ⟨u.heap.size, 0, none⟩) F F) (u.alloc (.cells (madeCells #[.int .u8 0] F) 5)) := fun u => Lanes.make_u8 u F (by omega)
  have hcv : ∀ (u : World) (b : Nat), Row u b (bytesV (List.replicate F 0)) → _ := fun u b hr => string_row (P := Tryz.prog) hr 49 5 9 Tryz.underlying49 Tryz.underlying5 Tryz.underlying9 F F (by simp)
  rw [← hZ] at hcv
  have n1 : ¬ 9223372036854775807 < s.size + 1 := by omega
  have n2 : ¬ 9223372036854775807 < s.size + 1 + Z.size := by omega
  have n3 : ¬ 9223372036854775807 < s.size + 1 + Z.size + H.size := by omega
  have HCH := Lib.hid hcH
  have HCV := Lib.hid hcv
  have HP := Lib.hid hP
  have HPS := Lib.hid hPs
  have HP64 := Lib.hid hP64
  have HSHA := Lib.hid hsha
  have HMK := Lib.hid hmk
  have hP4 : P.size ≤ 1000072 := by omega
  clear hl hF hF63 hH hHs hcH hZ hZs hP hPs hPl hP64 hsha hmk hcv
  go_enter Tryz.func81, Tryz.ntmps81
  go_upto_region 2 with (fail)
  go_cut [4] (fun v wc => v = .string P ∧ Below w.heap.size w wc)
  case first =>
    have hmk := HMK.out
    have hw1 : IntKind.u64.wrap (s.size : Int) = (s.size : Int) := by rw [IntKind.wrap_u64]; omega
    have hw2 : IntKind.u64.wrap ((s.size : Int) * 8) = (s.size : Int) * 8 := by rw [IntKind.wrap_u64]; omega
    have hA := HCV.out ((w.alloc (.cells (madeCells #[.int .u8 0] F) 5)).drew) w.heap.size (made_bytes w F)
    have hq : w.heap.size < ((w.alloc (.cells (madeCells #[.int .u8 0] F) 5)).drew).heap.size := by simp
    go_region_law ((first
      | (refine step_call rfl 46 Tryz.call46 #[.tmp 21, .const (.int .i64 8)] #[59, 3] rfl #[.int .u64 ((s.size : Int) * 8), .int .i64 8] (by first | (simp [Act.eval]; done) | simp [Act.eval, Act.put]) _ _ (HCH.out ((w.alloc (.cells (madeCells #[.int .u8 0] F) 5)).drew)) ?_; intro w5 hb5; have hB := HCV.out w5 w.heap.size ((show Row ((w.alloc (.cells (madeCells #[.int .u8 0] F) 5)).drew) w.heap.size (bytesV (List.replicate F 0)) from made_bytes w F).below hq hb5); have HW5 := Lib.hid (show Below w.heap.size w w5 from ((Below.refl w.heap.size w).alloc (Nat.le_refl _) _).drew.trans (hb5.mono (by simp))); clear hb5)
      | (refine step_call rfl 46 Tryz.call46 #[.tmp 21, .const (.int .i64 8)] #[59, 3] rfl #[.int .u64 ((s.size : Int) * 8), .int .i64 8] (by first | (simp [Act.eval]; done) | simp [Act.eval, Act.put]) _ _ (HCH.out w.drew) ?_; intro w5 hb5; have hB := HCV.out (w5.alloc (.cells (madeCells #[.int .u8 0] F) 5)) w5.heap.size (made_bytes w5 F); have HW5 := Lib.hid (show Below w.heap.size w (w5.alloc (.cells (madeCells #[.int .u8 0] F) 5)) from ((Below.refl w.heap.size w).drew.trans hb5).alloc hb5.size _); clear hb5)))
    all_goals go_wp2_with fail
    all_goals go_meet
    all_goals exact ⟨by rw [HP.out], HW5.out⟩
  case rest =>
    obtain ⟨rfl, hbel1⟩ := hcut
    have HB1 := Lib.hid hbel1
    clear hbel1 HMK HCV HCH n1 n2 n3 HP hFi hF0
    go_wp2_with fail
    refine (start_lit _).mono ?_
    rintro e w2 ⟨rfl, hb2⟩
    have hbel2 := HB1.out.trans (hb2.mono HB1.out.size)
    have hW3 : Whole (w2.alloc (.cells Sha.start.cells 103)) w2.heap.size 103 Sha.start.cells.toList := Whole.made' _ _ Sha.start.cells _ rfl
    have hbel3 := hbel2.alloc hbel2.size (.cells Sha.start.cells 103)
    have HW3 := Lib.hid hW3
    have HB3 := Lib.hid hbel3
    have hnH : w.heap.size ≤ w2.heap.size := hbel2.size
    clear hb2 hbel2 HB1 hW3 hbel3
    go_wp2_with fail
    have HW4 : Hid (Whole (w2.alloc (.cells #[.int .u32 1779033703, .int .u32 3144134277, .int .u32 1013904242, .int .u32 2773480762, .int .u32 1359893119, .int .u32 2600822924, .int .u32 528734635, .int .u32 1541459225] 103)) w2.heap.size 103 Sha.start.cells.toList) := HW3
    have HB4 : Hid (Below w.heap.size w (w2.alloc (.cells #[.int .u32 1779033703, .int .u32 3144134277, .int .u32 1013904242, .int .u32 2773480762, .int .u32 1359893119, .int .u32 2600822924, .int .u32 528734635, .int .u32 1541459225] 103))) := HB3
    clear HW3 HB3
    generalize w2.alloc (.cells #[.int .u32 1779033703, .int .u32 3144134277, .int .u32 1013904242, .int .u32 2773480762, .int .u32 1359893119, .int .u32 2600822924, .int .u32 528734635, .int .u32 1541459225] 103) = wx at *
    generalize w2.heap.size = nH at *
    go_loopw [6] (fun i wr => ∃ k : Nat, 64 * k ≤ P.size ∧ i = .int .i64 ((64 * k : Nat) : Int) ∧ Whole wr nH 103 (blocksOf Sha.start P.data.toList k).cells.toList ∧ Below w.heap.size w wr) (fun i _ => P.size - (intOf i).toNat)
    case atStart => exact ⟨0, by omega, rfl, HW4.out, HB4.out⟩
    case round =>
      clear HW4 HB4
      obtain ⟨k, hk, rfl, hW, hB⟩ := hrel
      have hok : (blocksOf Sha.start P.data.toList k).Ok := blocksOf_ok _ start_ok _ _
      by_cases hlt : 64 * k < P.size
      · have hlt64 : 64 * k + 64 ≤ P.size := by have := HP64.out; omega
        obtain ⟨T, hT⟩ : ∃ T, T = blocksOf Sha.start P.data.toList (k + 1) := ⟨_, rfl⟩
        have hT2 : T = blockOf (blocksOf Sha.start P.data.toList k) (P.extract (64 * k) (64 * k + 64)).data.toList := by rw [hT, extract_mid]; rfl
        have hes : (P.extract (64 * k) (64 * k + 64)).size = 64 := by rw [ByteArray.size_extract]; omega
        have hcall := fun u => block_call (blocksOf Sha.start P.data.toList k) T (P.extract (64 * k) (64 * k + 64)) u hok hes hT2
        have hf := whole_cells hW
        generalize blocksOf Sha.start P.data.toList k = U at *
        obtain ⟨va, vb, vc, vd, ve, vf, vg, vh⟩ := U
        dsimp only at hf hcall
        obtain ⟨c0, c1, c2, c3, c4, c5, c6, c7⟩ := hf
        obtain ⟨i, hi⟩ : ∃ i, i = 64 * k := ⟨_, rfl⟩
        rw [← hi] at hcall hlt hlt64 ⊢
        have hi4 : i ≤ 1000072 := by omega
        have hd2 : decide ((i : Int) < (P.size : Int)) = true := by simp; omega
        have HI := Lib.hid hi
        have HT := Lib.hid hT
        have HCL := Lib.hid hcall
        have HW := Lib.hid hW
        have HB := Lib.hid hB
        clear hi hT hT2 hes hcall hW hB hok hk
        go_upto_region 7 with (fail)
        have r0 : (i : Int) + 64 ≤ (P.size : Int) := by omega
        have r1 : (i : Int) ≤ (i : Int) + 64 := by omega
        have r2 : 0 ≤ (i : Int) := by omega
        have r3 : 0 ≤ (i : Int) + 64 := by omega
        have v1 : ((i : Int) + 64).toNat = i + 64 := by omega
        have v2 : IntKind.i64.wrap ((i : Int) + 64) = (i : Int) + 64 := IntWalk.i64_in _ (by omega)
        go_still_tail 6, (by kernel_rfl)
        change wpList _ _ _ _ _ wr.drew
        clear c0 c1 c2 c3 c4 c5 c6 c7 v1 v2
        go_wp2_with ((first
          | (go_at_call 97; (refine Calls.mono (HCL.out _) ?_; rintro e w5 ⟨rfl, hb5⟩; have HV5 := Lib.hid (show w5.heap[nH]? = some (.cells (⟨va, vb, vc, vd, ve, vf, vg, vh⟩ : S8).cells.toList.toArray 103 (0, 0)) from (Whole.drew HW.out).below HW.out.lt hb5); have HB5 := Lib.hid (HB.out.drew.trans (hb5.mono HB.out.size)); clear hb5))
          | (with_reducible refine wpList_store_row rfl 103 (.tmp 5) (.tmp 37) rfl nH #[.int .u32 (T.a : Int), .int .u32 (T.b : Int), .int .u32 (T.c : Int), .int .u32 (T.d : Int), .int .u32 (T.e : Int), .int .u32 (T.f : Int), .int .u32 (T.g : Int), .int .u32 (T.h : Int)] rfl rfl 103 _ HV5.out (lit8 _ _ _ _ _ _ _ _).1 rfl (lit8 _ _ _ _ _ _ _ _).2.2 ?_)))
        go_roundw
        case rel =>
          have e : i + 64 = 64 * (k + 1) := by have := HI.out; omega
          have hw : Whole (w5.setRow nH T.cells) nH 103 T.cells.toList := by
            have h1 : Whole w5 nH 103 (⟨va, vb, vc, vd, ve, vf, vg, vh⟩ : S8).cells.toList := HV5.out
            have h2 := h1.setRow T.cells.toList
            simpa using h2
          exact ⟨k + 1, by omega, by rw [← e]; go_num, by rw [← HT.out]; exact hw, below_setRow HB5.out hnH _⟩
        case measure =>
          show P.size - (intOf (.int .i64 ((i : Int) + 64))).toNat < P.size - (intOf (.int .i64 (i : Int))).toNat
          simp [intOf]; omega
      · have hke : k = P.size / 64 := by have := HP64.out; omega
        have hd2 : decide (((64 * k : Nat) : Int) < (P.size : Int)) = false := by simp; omega
        obtain ⟨U, hU⟩ : ∃ U, U = blocksOf Sha.start P.data.toList k := ⟨_, rfl⟩
        rw [← hU] at hW hok
        obtain ⟨A, hA⟩ : ∃ A : ByteArray, A = ⟨(sha s.data.toList).toArray⟩ := ⟨_, rfl⟩
        have hA2 : A = ⟨(Lanes.text U.list true).toArray⟩ := by rw [hA, HSHA.out, ← hke, hU]
        have htx : Calls Tryz.prog 79 #[.slice (some ⟨nH, 0, none⟩) 8 8, .bool true] wr fun e w' => e = .returned (.string A) ∧ Below wr.heap.size wr w' := by
          rw [hA2]
          exact RefTwo.text_some U.list nH 0 8 true wr (by show 8 ≤ _; omega) (s8_lt U hok) hW.lt (fun i hi => by rw [Nat.zero_add]; exact hW.row.cell (cells_get U i hi))
        have HTX := Lib.hid htx
        have HB := Lib.hid hB
        have HA := Lib.hid hA
        clear hA htx hA2 hU hke hW hok hB hk
        go_wp2_with fail
        refine HTX.out.mono ?_
        rintro e w6 ⟨rfl, hb6⟩
        go_wp2
        go_ret
        exact ⟨congrArg (fun x => Ending.returned (.string x)) HA.out, HB.out.trans (hb6.mono HB.out.size)⟩
end Go.Proofs.YtedgpglldlohfaaGreatDoor.RefSha
