/-
  The law StreamBack answers true and leaves all memory that was there as it was. Condition: the state has sixteen words below 2^32.
-/
import Derived.Test.YtblheplpaiokkaaChaAwake
import Derived.Test.YtblheplpaiokkaaLawUn
import Derived.Test.YtblheplpaiokkaaEq16
import Derived.Test.YtblheplpaiokkaaSteadyA
import Derived.Deep.RegionHeld3
import Derived.Deep.Cut
import Derived.Deep.DeepCutAuto
namespace Go.Proofs.Ytblheplpaiokkaa.LawBack
open Go.RowKit Mur Lanes Cha
set_option maxRecDepth 100000

/-- The first k of four places have got what they shall. -/
def puts (s : List Nat) (i j k l : Nat) (q : Q4) : Nat → List Nat
  | 0 => s
  | 1 => s.set i q.a
  | 2 => (s.set i q.a).set j q.b
  | 3 => ((s.set i q.a).set j q.b).set k q.c
  | _ => put4 s i j k l q

/-- The slants that have been brought back, the later one first. -/
def sweeps (m : List Nat) : Nat → List Nat
  | 0 => m
  | j + 1 => unslant (sweeps m j) (1 - j) 4
theorem sweeps_ok {m : List Nat} (h : Words16 m) (j : Nat) : Words16 (sweeps m j) := by
  induction j with
  | zero => exact h
  | succ j ih => exact ih.unslant _ _
theorem sweeps_two (m : List Nat) : sweeps m 2 = unmixed m := by
  simp only [sweeps, unmixed]
/-- What is kept of the world. -/
structure Law (w0 : World) (s : List Nat) (nM nS : Nat) (X : List Nat) (w : World) : Prop where
  s0 : Whole w w0.heap.size 23 (wordsV s)
  m : Whole w nM 23 (wordsV X)
  c0 : w.cell? ⟨nS, 0, none⟩ = some (.int .i64 1)
  c1 : w.cell? ⟨nS, 1, none⟩ = some (.int .i64 0)
  sl : nS < w.heap.size
  below : Below w0.heap.size w0 w
theorem Law.next {w0 w w' : World} {s X : List Nat} {nM nS : Nat} (h : Law w0 s nM nS X w) (q : Below w.heap.size w w') : Law w0 s nM nS X w' :=
  ⟨h.s0.below h.s0.lt q, h.m.below h.m.lt q, (q.cell (p := ⟨nS, 0, none⟩) h.sl).trans h.c0, (q.cell (p := ⟨nS, 1, none⟩) h.sl).trans h.c1, Nat.lt_of_lt_of_le h.sl q.size, h.below.trans (q.mono h.below.size)⟩
theorem Law.set {w0 w : World} {s X : List Nat} {nM nS : Nat} (h : Law w0 s nM nS X w) (i y : Nat) (h1 : w0.heap.size < nM) (h2 : nM ≠ nS) : Law w0 s nM nS (X.set i y) (w.setCell ⟨nM, i, none⟩ (.int .u32 (y : Int))) := by
  refine ⟨h.s0.other _ _ _ (by omega), set_word h.m i y, ?_, ?_, by rw [World.size_setCell]; exact h.sl, h.below.setCell (p := ⟨nM, i, none⟩) (by show w0.heap.size ≤ nM; omega) _⟩
  · rw [World.cell?_setCell_other w ⟨nM, i, none⟩ ⟨nS, 0, none⟩ _ (by intro e; cases e; exact h2 rfl)]
    exact h.c0
  · rw [World.cell?_setCell_other w ⟨nM, i, none⟩ ⟨nS, 1, none⟩ _ (by intro e; cases e; exact h2 rfl)]
    exact h.c1

/-- What is kept through the first statement. -/
structure One (w0 : World) (s : List Nat) (w : World) : Prop where
  s0 : Whole w w0.heap.size 23 (wordsV s)
  room : w0.heap.size + 1 < w.heap.size
  below : Below w0.heap.size w0 w
theorem One.next {w0 w w' : World} {s : List Nat} (h : One w0 s w) (q : Below w.heap.size w w') : One w0 s w' :=
  ⟨h.s0.below h.s0.lt q, Nat.lt_of_lt_of_le h.room q.size, h.below.trans (q.mono h.below.size)⟩
abbrev Held (w0 : World) (s : List Nat) (a b c d : Nat) (w : World) : Prop :=
  w.cell? ⟨w0.heap.size + 1, 0, none⟩ = some (.int .u32 (a : Int)) ∧ w.cell? ⟨w0.heap.size + 1, 1, none⟩ = some (.int .u32 (b : Int)) ∧ w.cell? ⟨w0.heap.size + 1, 2, none⟩ = some (.int .u32 (c : Int)) ∧ w.cell? ⟨w0.heap.size + 1, 3, none⟩ = some (.int .u32 (d : Int)) ∧ One w0 s w
theorem held_next {w0 w w' : World} {s : List Nat} {a b c d : Nat} (h : Held w0 s a b c d w) (q : Below w.heap.size w w') : Held w0 s a b c d w' := by
  obtain ⟨c0, c1, c2, c3, k⟩ := h
  have hr := k.room
  exact ⟨(q.cell (p := ⟨w0.heap.size + 1, 0, none⟩) hr).trans c0, (q.cell (p := ⟨w0.heap.size + 1, 1, none⟩) hr).trans c1, (q.cell (p := ⟨w0.heap.size + 1, 2, none⟩) hr).trans c2, (q.cell (p := ⟨w0.heap.size + 1, 3, none⟩) hr).trans c3, k.next q⟩

theorem held_start (w : World) (s : List Nat) (a b c d : Nat) : Held w s a b c d ((w.alloc (.cells (wordsV s).toArray 23)).alloc (.cells #[.int .u32 (a : Int), .int .u32 (b : Int), .int .u32 (c : Int), .int .u32 (d : Int)] 27)) := by
  refine ⟨?_, ?_, ?_, ?_, (Whole.made' w _ (wordsV s).toArray _ rfl).alloc _, by simp, ((Below.refl _ _).alloc (Nat.le_refl _) _).alloc (by simp) _⟩
  all_goals simp

/-- What is kept while four places are read. -/
structure Room (w0 : World) (s : List Nat) (nM nS : Nat) (Y : List Nat) (nL : Nat) (w : World) : Prop where
  law : Law w0 s nM nS Y w
  room : nL < w.heap.size
abbrev Held2 (w0 : World) (s : List Nat) (nM nS : Nat) (Y : List Nat) (nL k b c d x y z u : Nat) (w : World) : Prop :=
  w.cell? ⟨nL, 0, none⟩ = some (.int .i64 (k : Int)) ∧ w.cell? ⟨nL, 1, none⟩ = some (.int .i64 (b : Int)) ∧ w.cell? ⟨nL, 2, none⟩ = some (.int .i64 (c : Int)) ∧ w.cell? ⟨nL, 3, none⟩ = some (.int .i64 (d : Int)) ∧
  w.cell? ⟨nM, k, none⟩ = some (.int .u32 (x : Int)) ∧ w.cell? ⟨nM, b, none⟩ = some (.int .u32 (y : Int)) ∧ w.cell? ⟨nM, c, none⟩ = some (.int .u32 (z : Int)) ∧ w.cell? ⟨nM, d, none⟩ = some (.int .u32 (u : Int)) ∧ Room w0 s nM nS Y nL w
theorem held2_next {w0 w w' : World} {s Y : List Nat} {nM nS nL k b c d x y z u : Nat} (h : Held2 w0 s nM nS Y nL k b c d x y z u w) (q : Below w.heap.size w w') : Held2 w0 s nM nS Y nL k b c d x y z u w' := by
  obtain ⟨c0, c1, c2, c3, c4, c5, c6, c7, r⟩ := h
  have hr := r.room
  have hm := r.law.m.lt
  exact ⟨(q.cell (p := ⟨nL, 0, none⟩) hr).trans c0, (q.cell (p := ⟨nL, 1, none⟩) hr).trans c1, (q.cell (p := ⟨nL, 2, none⟩) hr).trans c2, (q.cell (p := ⟨nL, 3, none⟩) hr).trans c3,
    (q.cell (p := ⟨nM, k, none⟩) hm).trans c4, (q.cell (p := ⟨nM, b, none⟩) hm).trans c5, (q.cell (p := ⟨nM, c, none⟩) hm).trans c6, (q.cell (p := ⟨nM, d, none⟩) hm).trans c7, r.law.next q, Nat.lt_of_lt_of_le hr q.size⟩
theorem held2_alloc {w0 w : World} {s Y : List Nat} {nM nS nL k b c d x y z u : Nat} (h : Held2 w0 s nM nS Y nL k b c d x y z u w) (o : Obj) : Held2 w0 s nM nS Y nL k b c d x y z u (w.alloc o) := held2_next h ((Below.refl _ _).alloc (Nat.le_refl _) o)
theorem held2_start {w0 w : World} {s Y : List Nat} {nM nS k b c d : Nat} (h : Law w0 s nM nS Y w) (hY : Y.length = 16) (hk : k < 16) (hb : b < 16) (hc : c < 16) (hd : d < 16) :
    Held2 w0 s nM nS Y w.heap.size k b c d (Y.getD k 0) (Y.getD b 0) (Y.getD c 0) (Y.getD d 0) (w.alloc (.cells #[.int .i64 (k : Int), .int .i64 (b : Int), .int .i64 (c : Int), .int .i64 (d : Int)] 39)) := by
  have h1 := h.next ((Below.refl w.heap.size w).alloc (Nat.le_refl _) (.cells #[.int .i64 (k : Int), .int .i64 (b : Int), .int .i64 (c : Int), .int .i64 (d : Int)] 39))
  refine ⟨by simp, by simp, by simp, by simp, word_cell h1.m (by omega), word_cell h1.m (by omega), word_cell h1.m (by omega), word_cell h1.m (by omega), h1, by simp⟩

theorem held2_set {w0 w : World} {s Y : List Nat} {nM nS nL k b c d x y z u n : Nat} (h : Held2 w0 s nM nS Y nL k b c d x y z u w) (hn : nL < n ∧ nM < n ∧ nS < n ∧ w0.heap.size < n) (i : Nat) (v : Value) : Held2 w0 s nM nS Y nL k b c d x y z u (w.setCell ⟨n, i, none⟩ v) := by
  obtain ⟨h1, h2, h3, h4⟩ := hn
  have far : ∀ (g j : Nat), g < n → (w.setCell ⟨n, i, none⟩ v).cell? ⟨g, j, none⟩ = w.cell? ⟨g, j, none⟩ := fun g j hg => World.cell?_setCell_other w ⟨n, i, none⟩ ⟨g, j, none⟩ v (by intro e; cases e; omega)
  obtain ⟨c0, c1, c2, c3, c4, c5, c6, c7, r⟩ := h
  exact ⟨(far _ _ h1).trans c0, (far _ _ h1).trans c1, (far _ _ h1).trans c2, (far _ _ h1).trans c3, (far _ _ h2).trans c4, (far _ _ h2).trans c5, (far _ _ h2).trans c6, (far _ _ h2).trans c7,
    ⟨r.law.s0.other _ _ _ (by omega), r.law.m.other _ _ _ (by omega), (far _ _ h3).trans r.law.c0, (far _ _ h3).trans r.law.c1, by rw [World.size_setCell]; exact r.law.sl, r.law.below.setCell (p := ⟨n, i, none⟩) (by show w0.heap.size ≤ n; omega) _⟩, by rw [World.size_setCell]; exact r.room⟩

theorem room_next {w w' : World} {a b c d : Nat} (h : a < w.heap.size ∧ b < w.heap.size ∧ c < w.heap.size ∧ d < w.heap.size) (k : Below w.drew.heap.size w.drew w') : a < w'.heap.size ∧ b < w'.heap.size ∧ c < w'.heap.size ∧ d < w'.heap.size := by
  have hs : w.heap.size ≤ w'.heap.size := k.size
  obtain ⟨h1, h2, h3, h4⟩ := h
  exact ⟨by omega, by omega, by omega, by omega⟩
theorem held2_swap {w0 w : World} {s Y : List Nat} {nM nS nL k b c d x y z u : Nat} {o o' : Obj} (h : Held2 w0 s nM nS Y nL k b c d x y z u (w.alloc o)) (hn : nL < w.heap.size ∧ nM < w.heap.size ∧ nS < w.heap.size ∧ w0.heap.size < w.heap.size) : Held2 w0 s nM nS Y nL k b c d x y z u (w.alloc o') := by
  obtain ⟨h1, h2, h3, h4⟩ := hn
  have far : ∀ (g j : Nat), g < w.heap.size → (w.alloc o').cell? ⟨g, j, none⟩ = (w.alloc o).cell? ⟨g, j, none⟩ := fun g j hg => by
    rw [World.cell?_alloc_old _ _ _ (Nat.ne_of_lt hg), World.cell?_alloc_old _ _ _ (Nat.ne_of_lt hg)]
  have farW : ∀ (g : Nat), g < w.heap.size → (w.alloc o').heap[g]? = (w.alloc o).heap[g]? := fun g hg => by
    rw [_root_.Go.heap_alloc_old w o' hg, _root_.Go.heap_alloc_old w o hg]
  obtain ⟨c0, c1, c2, c3, c4, c5, c6, c7, r⟩ := h
  have hsz : (w.alloc o').heap.size = (w.alloc o).heap.size := by simp
  refine ⟨(far _ _ h1).trans c0, (far _ _ h1).trans c1, (far _ _ h1).trans c2, (far _ _ h1).trans c3, (far _ _ h2).trans c4, (far _ _ h2).trans c5, (far _ _ h2).trans c6, (far _ _ h2).trans c7,
    ⟨(farW _ h4).trans r.law.s0, (farW _ h2).trans r.law.m, (far _ _ h3).trans r.law.c0, (far _ _ h3).trans r.law.c1, by rw [hsz]; exact r.law.sl, ⟨r.law.below.os, r.law.below.tape, r.law.below.output, by rw [hsz]; exact r.law.below.size, fun g hg => (farW g (Nat.lt_trans hg h4)).trans (r.law.below.block g hg)⟩⟩, by rw [hsz]; exact r.room⟩

theorem held2_ad {w0 w : World} {s Y : List Nat} {nM nS nL k b c d x y z u : Nat} (h : Held2 w0 s nM nS Y nL k b c d x y z u w.drew) (o : Obj) : Held2 w0 s nM nS Y nL k b c d x y z u (w.alloc o).drew :=
  held2_next (w' := (w.alloc o).drew) h ((Below.refl w.drew.heap.size w.drew).alloc (Nat.le_refl _) o)
theorem in_new {w w' : World} {o : Obj} (h : Below (w.alloc o).drew.heap.size (w.alloc o).drew w') (i : Nat) : w'.cell? ⟨w.heap.size, i, none⟩ = (w.alloc o).cell? ⟨w.heap.size, i, none⟩ :=
  h.cell (p := ⟨w.heap.size, i, none⟩) (by show w.heap.size < (w.alloc o).heap.size; simp)
theorem in_free {w w' : World} {o : Obj} (h : Below (w.alloc o).drew.heap.size (w.alloc o).drew w') (i : Nat) : w'.frozen? ⟨w.heap.size, i, none⟩ = (w.alloc o).frozen? ⟨w.heap.size, i, none⟩ :=
  h.frozen (p := ⟨w.heap.size, i, none⟩) (by show w.heap.size < (w.alloc o).heap.size; simp)

theorem in_whole {w w' : World} {vs : Array Value} {t : TypeId} (h : Below (w.alloc (.cells vs t)).drew.heap.size (w.alloc (.cells vs t)).drew w') : Whole w' w.heap.size t vs.toList :=
  (Whole.made' w t vs _ rfl).drew.below (by show w.heap.size < (w.alloc _).heap.size; simp) h
theorem set_four {w : World} {n : Nat} {t : TypeId} (h : Whole w n t [.int .u32 0, .int .u32 0, .int .u32 0, .int .u32 0]) (a b c d : Value) : Whole ((((w.setCell ⟨n, 0, none⟩ a).setCell ⟨n, 1, none⟩ b).setCell ⟨n, 2, none⟩ c).setCell ⟨n, 3, none⟩ d) n t [a, b, c, d] :=
  (((h.set 0 a).set 1 b).set 2 c).set 3 d

/-- What is kept while the four places are written. -/
structure Inn (w0 : World) (s : List Nat) (nM nS : Nat) (P : List Nat) (nL nX k b c d : Nat) (V : Q4) (w : World) : Prop where
  law : Law w0 s nM nS P w
  l0 : w.cell? ⟨nL, 0, none⟩ = some (.int .i64 (k : Int))
  l1 : w.cell? ⟨nL, 1, none⟩ = some (.int .i64 (b : Int))
  l2 : w.cell? ⟨nL, 2, none⟩ = some (.int .i64 (c : Int))
  l3 : w.cell? ⟨nL, 3, none⟩ = some (.int .i64 (d : Int))
  x : Whole w nX 27 [.int .u32 (V.a : Int), .int .u32 (V.b : Int), .int .u32 (V.c : Int), .int .u32 (V.d : Int)]
theorem Inn.drew {w0 w : World} {s P : List Nat} {nM nS nL nX k b c d : Nat} {V : Q4} (h : Inn w0 s nM nS P nL nX k b c d V w) : Inn w0 s nM nS P nL nX k b c d V w.drew :=
  ⟨⟨h.law.s0, h.law.m, h.law.c0, h.law.c1, h.law.sl, h.law.below.drew⟩, h.l0, h.l1, h.l2, h.l3, h.x⟩
theorem Inn.set {w0 w : World} {s P : List Nat} {nM nS nL nX k b c d : Nat} {V : Q4} (h : Inn w0 s nM nS P nL nX k b c d V w) (i y : Nat) (h1 : w0.heap.size < nM) (h2 : nM ≠ nS) (h3 : nL ≠ nM) (h4 : nX ≠ nM) : Inn w0 s nM nS (P.set i y) nL nX k b c d V (w.setCell ⟨nM, i, none⟩ (.int .u32 (y : Int))) := by
  have far : ∀ (j : Nat), (w.setCell ⟨nM, i, none⟩ (.int .u32 (y : Int))).cell? ⟨nL, j, none⟩ = w.cell? ⟨nL, j, none⟩ := fun j => World.cell?_setCell_other w ⟨nM, i, none⟩ ⟨nL, j, none⟩ _ (by intro e; cases e; exact h3 rfl)
  exact ⟨h.law.set i y h1 h2, (far _).trans h.l0, (far _).trans h.l1, (far _).trans h.l2, (far _).trans h.l3, h.x.other _ _ _ h4.symm⟩
theorem puts_length (Y : List Nat) (i j k l : Nat) (q : Q4) (m : Nat) (h : m ≤ 4) : (puts Y i j k l q m).length = Y.length := by
  obtain rfl | rfl | rfl | rfl | rfl : m = 0 ∨ m = 1 ∨ m = 2 ∨ m = 3 ∨ m = 4 := by omega
  all_goals simp [puts, put4]

theorem law_end {w0 w : World} {s M : List Nat} {nM nS : Nat} (h : Law w0 s nM nS (sweeps M 2) w) (hun : s = unmixed M) : Whole w nM 23 (wordsV s) := by
  rw [sweeps_two] at h
  rw [hun]
  exact h.m

theorem zero_four : (Try.prog.info? 27).map (fun i => (i.zero, i.size)) = some (some (.agg #[.int .u32 0, .int .u32 0, .int .u32 0, .int .u32 0]), 4) := by kernel_rfl
set_option maxHeartbeats 6400000 in
theorem walk (s : List Nat) (w : World) (h : Words16 s) :
    Calls Try.prog 5 #[.agg (wordsV s).toArray] w fun e w' => e = .returned (.bool true) ∧ Below w.heap.size w w' := by
  have hm0 : Whole (w.alloc (.cells (wordsV s).toArray 23)) w.heap.size 23 (wordsV s) := Whole.made' w _ (wordsV s).toArray _ rfl
  have ca := word_cell hm0 (i := 0) (by rw [h.1]; omega)
  have cb := word_cell hm0 (i := 1) (by rw [h.1]; omega)
  have cc := word_cell hm0 (i := 2) (by rw [h.1]; omega)
  have cd := word_cell hm0 (i := 3) (by rw [h.1]; omega)
  obtain ⟨a, ha⟩ : ∃ a, a = s.getD 0 0 := ⟨_, rfl⟩
  obtain ⟨b, hb⟩ : ∃ a, a = s.getD 1 0 := ⟨_, rfl⟩
  obtain ⟨c, hc⟩ : ∃ a, a = s.getD 2 0 := ⟨_, rfl⟩
  obtain ⟨d, hd⟩ : ∃ a, a = s.getD 3 0 := ⟨_, rfl⟩
  have hq4 : (⟨a, b, c, d⟩ : Q4).Ok := by rw [ha, hb, hc, hd]; exact h.at4 0 1 2 3
  rw [← ha] at ca
  rw [← hb] at cb
  rw [← hc] at cc
  rw [← hd] at cd
  obtain ⟨Q, hQ⟩ : ∃ Q, Q = quarter ⟨a, b, c, d⟩ := ⟨_, rfl⟩
  have r1 := Lib.hid (fun u => pub_any a b c d Q u hq4 hQ)
  have r2 := Lib.hid (show ∀ u, Calls Try.prog 20 #[.agg #[.int .u32 Q.a, .int .u32 Q.b, .int .u32 Q.c, .int .u32 Q.d]] u fun e w' => e = .returned (.agg #[.int .u32 (a : Int), .int .u32 (b : Int), .int .u32 (c : Int), .int .u32 (d : Int)]) ∧ Below u.heap.size u w' from fun u =>
    back_any Q.a Q.b Q.c Q.d ⟨a, b, c, d⟩ u (by rw [hQ]; exact quarter_ok _ hq4) (by rw [hQ]; exact (back_quarter _ hq4).symm))
  have heq := fun u => eq_four (a : Int) b c d u
  have HS := Lib.hid (held_start w s a b c d)
  have HK := Lib.hid h
  clear ha hb hc hd hq4 hQ hm0 h
  go_enter Try.func5, Try.ntmps5
  go_upto_region 2 with (fail)
  clear ca cb cc cd
  generalize (w.alloc (.cells (wordsV s).toArray 23)).alloc (.cells #[.int .u32 (a : Int), .int .u32 (b : Int), .int .u32 (c : Int), .int .u32 (d : Int)] 27) = wx at *
  have HS1 := Lib.hid (held_next HS.out ((Below.refl wx.heap.size wx).drew))
  clear HS
  go_region_held3 (fun w' => w'.cell? ⟨w.heap.size + 1, 0, none⟩ = some (.int .u32 (a : Int)) ∧ w'.cell? ⟨w.heap.size + 1, 1, none⟩ = some (.int .u32 (b : Int)) ∧ w'.cell? ⟨w.heap.size + 1, 2, none⟩ = some (.int .u32 (c : Int)) ∧ w'.cell? ⟨w.heap.size + 1, 3, none⟩ = some (.int .u32 (d : Int)) ∧ One w s w')
    (first | exact HS1.out | assumption | exact held_next (by assumption) (by assumption))
    (first
      | (go_at_call 16; with_reducible refine Calls.mono (r1.out _) ?_; rintro e w' ⟨rfl, hb⟩)
      | (go_at_call 20; with_reducible refine Calls.mono (r2.out _) ?_; rintro e wb ⟨rfl, hb⟩))
  have hk1 : Held w s a b c d wb := by assumption
  have hone := hk1.2.2.2.2
  obtain ⟨M, hM⟩ : ∃ M, M = mixed s := ⟨_, rfl⟩
  have hokM : Words16 M := by rw [hM]; exact HK.out.mixed
  have hun : s = unmixed M := by rw [hM]; exact (unmixed_mixed HK.out).symm
  have r3 := Lib.hid (fun u => mixed_any s M u HK.out hM)
  have HW0 := Lib.hid hone.s0
  have HONE := Lib.hid hone
  have HIS := Lib.hid (info16 HK.out.1)
  have HIM := Lib.hid (info16 hokM.1)
  have HOM := Lib.hid (show zeros16.length = (wordsV M).length by rw [wordsV_length, hokM.1]; rfl)
  have H1M := Lib.hid (one16 M)
  have HKM := Lib.hid hokM
  have HUN := Lib.hid hun
  clear hk1 hone hM hokM hun heq r1 r2 HS1 hb
  go_wp2_with ((with_reducible refine wpList_load_mid rfl 23 (.tmp 1) rfl w.heap.size 0 rfl (wordsV s) _ HW0.out.range Try.underlying23 rfl HIS.out ?_))
  refine (r3.out _).mono ?_
  rintro e w2 ⟨rfl, hb2⟩
  have HO2 := Lib.hid (HONE.out.next hb2)
  clear hb2 HONE HW0
  go_upto_region 5 with ((first
    | (with_reducible refine wpList_alloc_z rfl 23 rfl zeros16 zero16 ?_)
    | (with_reducible refine wpList_store_new rfl 23 _ _ rfl _ (wordsV M) zeros16 rfl rfl rfl HIM.out HOM.out H1M.out ?_)))
  go_simp
  go_wp2
  have hlaw : Law w s w2.heap.size (w2.heap.size + 1) M ((w2.alloc (.cells (wordsV M).toArray 23)).alloc (.cells #[.int .i64 1, .int .i64 0] 3)) := by
    refine ⟨(HO2.out.s0.alloc _).alloc _, (Whole.made _ _ _).alloc _, by simp, by simp, by simp, (HO2.out.below.alloc HO2.out.below.size _).alloc (by have := HO2.out.below.size; simp; omega) _⟩
  have hn1 : w.heap.size < w2.heap.size := by have := HO2.out.room; omega
  have HLAW := Lib.hid hlaw
  clear hlaw HO2 HIS HIM HOM H1M r3
  generalize (w2.alloc (.cells (wordsV M).toArray 23)).alloc (.cells #[.int .i64 1, .int .i64 0] 3) = wy at *
  generalize hnM : w2.heap.size = nM at *
  clear hnM
  obtain ⟨nS, hnS⟩ : ∃ nS, nS = nM + 1 := ⟨_, rfl⟩
  rw [← hnS] at HLAW ⊢
  have hn2 : nM ≠ nS := by omega
  have HN2 := Lib.hid hn2
  clear hnS hn2
  go_loopw [29] (fun i wr => ∃ j : Nat, j ≤ 2 ∧ i = .int .i64 j ∧ Law w s nM nS (sweeps M j) wr) (fun i _ => 2 - (intOf i).toNat)
  case atStart => exact ⟨0, by omega, rfl, HLAW.out⟩
  case round =>
    obtain ⟨j, hj2, rfl, hk⟩ := hrel
    by_cases hlt : j < 2
    · have hd2 : decide ((j : Int) < 2) = true := by simp; omega
      have hji : (j : Int) < 2 := by omega
      obtain ⟨t, ht⟩ : ∃ t, t = 1 - j := ⟨_, rfl⟩
      have hcell : wr.cell? ⟨nS, j, none⟩ = some (.int .i64 (t : Int)) := by
        obtain rfl | rfl : j = 0 ∨ j = 1 := by omega
        · rw [ht]; exact hk.c0
        · rw [ht]; exact hk.c1
      have ht1 : t ≤ 1 := by omega
      have hstep : sweeps M (j + 1) = unslant (sweeps M j) t 4 := by rw [ht]; rfl
      have hok := sweeps_ok HKM.out j
      generalize sweeps M j = X at *
      have HE := Lib.hid hk
      have HX := Lib.hid hok
      have HN := Lib.hid hstep
      clear hk hok hstep ht HLAW
      go_wp2
      clear hcell
      obtain ⟨wo, rfl⟩ : ∃ wo : World, wo = wr := ⟨_, rfl⟩
      go_loopw [33] (fun i wr => ∃ k : Nat, k ≤ 4 ∧ i = .int .i64 k ∧ Law w s nM nS (unslant X t k) wr) (fun i _ => 4 - (intOf i).toNat)
      case atStart => exact ⟨0, by omega, rfl, HE.out⟩
      case round =>
        obtain ⟨k, hk4, rfl, hk⟩ := hrel
        by_cases hlk : k < 4
        · have hd4 : decide ((k : Int) < 4) = true := by simp; omega
          have hok := HX.out.unslant t k
          have hnext : unslant X t (k + 1) = put4 (unslant X t k) k (pb t k) (pc t k) (pd t k) (back (at4 (unslant X t k) k (pb t k) (pc t k) (pd t k))) := rfl
          generalize unslant X t k = Y at *
          obtain ⟨b1, hb1⟩ : ∃ b, b = pb t k := ⟨_, rfl⟩
          obtain ⟨c1, hc1⟩ : ∃ c, c = pc t k := ⟨_, rfl⟩
          obtain ⟨d1, hd1⟩ : ∃ d, d = pd t k := ⟨_, rfl⟩
          rw [← hb1, ← hc1, ← hd1] at hnext
          unfold pb at hb1
          unfold pc at hc1
          unfold pd at hd1
          have qb : (4 : Int) + ((k : Int) + (t : Int)) % 4 = (b1 : Int) := by omega
          have qc : (8 : Int) + ((k : Int) + 2 * (t : Int)) % 4 = (c1 : Int) := by omega
          have qd : (12 : Int) + ((k : Int) + 3 * (t : Int)) % 4 = (d1 : Int) := by omega
          have lb : b1 < 16 := by omega
          have lc : c1 < 16 := by omega
          have ld : d1 < 16 := by omega
          clear hb1 hc1 hd1
          have HK := Lib.hid hk
          have HML := Lib.hid hk.m.lt
          have HY := Lib.hid hok
          have HYL := Lib.hid hok.1
          have HNX := Lib.hid hnext
          clear hk hok hnext HE HX
          go_upto_region 12 with (fail)
          clear qb qc qd
          have HH := Lib.hid (held2_start HK.out HY.out.1 (k := k) (b := b1) (c := c1) (d := d1) (by omega) lb lc ld)
          have ok4 := HY.out.at4 k b1 c1 d1
          unfold at4 at ok4
          obtain ⟨V, hV⟩ : ∃ V, V = back (at4 Y k b1 c1 d1) := ⟨_, rfl⟩
          rw [← hV] at HNX
          unfold at4 at hV
          have hVok : V.Ok := by rw [hV]; exact back_ok _ ok4
          generalize Y.getD k 0 = y0 at *
          generalize Y.getD b1 0 = y1 at *
          generalize Y.getD c1 0 = y2 at *
          generalize Y.getD d1 0 = y3 at *
          have R := Lib.hid (fun u => back_any y0 y1 y2 y3 V u ok4 hV)
          have ia : (k : Int) < 16 := by omega
          have ib : (b1 : Int) < 16 := by omega
          have ic : (c1 : Int) < 16 := by omega
          have id' : (d1 : Int) < 16 := by omega
          clear ok4 hV hVok HK HY
          generalize wr.alloc (.cells #[.int .i64 (k : Int), .int .i64 (b1 : Int), .int .i64 (c1 : Int), .int .i64 (d1 : Int)] 39) = wz at *
          have HNLM := Lib.hid (show wr.heap.size ≠ nM from (Nat.ne_of_lt HML.out).symm)
          generalize wr.heap.size = nL at *
          have HH1 := Lib.hid (held2_next HH.out ((Below.refl wz.heap.size wz).drew))
          clear HH
          have hnl : nL ≠ nM := HNLM.out
          have HNL := Lib.hid hnl
          clear hnl HNLM
          have hX : nL < wz.heap.size ∧ nM < wz.heap.size ∧ nS < wz.heap.size ∧ w.heap.size < wz.heap.size := by
            have r := HH1.out.2.2.2.2.2.2.2.2
            have q1 : nL < wz.heap.size := r.room
            have q2 : nM < wz.heap.size := r.law.m.lt
            have q3 : nS < wz.heap.size := r.law.sl
            exact ⟨q1, q2, q3, by omega⟩
          have HX := Lib.hid hX
          clear hX
          go_cut [9] (fun v9 wc => ∃ nX : Nat, v9 = .pointer (some ⟨nX, 0, none⟩) ∧ Whole wc nX 27 [.int .u32 (V.a : Int), .int .u32 (V.b : Int), .int .u32 (V.c : Int), .int .u32 (V.d : Int)] ∧ nX ≠ nM ∧ nL ≠ nM ∧
            wc.cell? ⟨nL, 0, none⟩ = some (.int .i64 (k : Int)) ∧ wc.cell? ⟨nL, 1, none⟩ = some (.int .i64 (b1 : Int)) ∧ wc.cell? ⟨nL, 2, none⟩ = some (.int .i64 (c1 : Int)) ∧ wc.cell? ⟨nL, 3, none⟩ = some (.int .i64 (d1 : Int)) ∧ Law w s nM nS Y wc ∧ nL < wc.heap.size)
          case first =>
            refine Steady.region_alloc 19 18 [0, 1, 2, 3, 4, 5, 6, 7, 8, 9, 10, 11, 12, 13, 14, 15, 16, 17] _ rfl (by kernel_rfl) (by kernel_rfl) (Steady.Made wz.drew 27 [.int .u32 0, .int .u32 0, .int .u32 0, .int .u32 0]) (Steady.makes_alloc rfl 27 rfl _ zero_four) (Below.refl _ _) ?_
            simp only [List.filterMap_cons, List.filterMap_nil, List.drop_succ_cons, List.drop_zero, List.getElem?_cons_zero, List.getElem?_cons_succ]
            refine Steady.takeM ?_ rfl (by intro s u hu; go_simp; with_reducible rfl) ?_
            simp only [Act.put, List.setIfInBounds_toArray, List.set_cons_zero, List.set_cons_succ]
            refine Steady.takeM ?_ rfl (by intro s u hu; obtain ⟨c0, c1, c2, c3, c4, c5, c6, c7, -⟩ := held2_next HH1.out hu.below; go_simp; with_reducible rfl) ?_
            simp only [Act.put, List.setIfInBounds_toArray, List.set_cons_zero, List.set_cons_succ]
            refine Steady.takeM ?_ rfl (by intro s u hu; go_simp; with_reducible rfl) ?_
            simp only [Act.put, List.setIfInBounds_toArray, List.set_cons_zero, List.set_cons_succ]
            refine Steady.takeM ?_ rfl (by intro s u hu; obtain ⟨c0, c1, c2, c3, c4, c5, c6, c7, -⟩ := held2_next HH1.out hu.below; go_simp; with_reducible rfl) ?_
            simp only [Act.put, List.setIfInBounds_toArray, List.set_cons_zero, List.set_cons_succ]
            refine Steady.takeM ?_ rfl (by intro s u hu; go_simp; with_reducible rfl) ?_
            simp only [Act.put, List.setIfInBounds_toArray, List.set_cons_zero, List.set_cons_succ]
            refine Steady.takeM ?_ rfl (by intro s u hu; obtain ⟨c0, c1, c2, c3, c4, c5, c6, c7, -⟩ := held2_next HH1.out hu.below; go_simp; with_reducible rfl) ?_
            simp only [Act.put, List.setIfInBounds_toArray, List.set_cons_zero, List.set_cons_succ]
            refine Steady.takeM ?_ rfl (by intro s u hu; go_simp; with_reducible rfl) ?_
            simp only [Act.put, List.setIfInBounds_toArray, List.set_cons_zero, List.set_cons_succ]
            refine Steady.takeM ?_ rfl (by intro s u hu; obtain ⟨c0, c1, c2, c3, c4, c5, c6, c7, -⟩ := held2_next HH1.out hu.below; go_simp; with_reducible rfl) ?_
            simp only [Act.put, List.setIfInBounds_toArray, List.set_cons_zero, List.set_cons_succ]
            refine Steady.takeM ?_ rfl (by intro s u hu; go_simp; with_reducible rfl) ?_
            simp only [Act.put, List.setIfInBounds_toArray, List.set_cons_zero, List.set_cons_succ]
            refine Steady.takeM ?_ rfl (by intro s u hu; obtain ⟨c0, c1, c2, c3, c4, c5, c6, c7, -⟩ := held2_next HH1.out hu.below; go_simp; with_reducible rfl) ?_
            simp only [Act.put, List.setIfInBounds_toArray, List.set_cons_zero, List.set_cons_succ]
            refine Steady.takeM ?_ rfl (by intro s u hu; go_simp; with_reducible rfl) ?_
            simp only [Act.put, List.setIfInBounds_toArray, List.set_cons_zero, List.set_cons_succ]
            refine Steady.takeM ?_ rfl (by intro s u hu; obtain ⟨c0, c1, c2, c3, c4, c5, c6, c7, -⟩ := held2_next HH1.out hu.below; go_simp; with_reducible rfl) ?_
            simp only [Act.put, List.setIfInBounds_toArray, List.set_cons_zero, List.set_cons_succ]
            refine Steady.takeM ?_ rfl (by intro s u hu; go_simp; with_reducible rfl) ?_
            simp only [Act.put, List.setIfInBounds_toArray, List.set_cons_zero, List.set_cons_succ]
            refine Steady.takeM ?_ rfl (by intro s u hu; obtain ⟨c0, c1, c2, c3, c4, c5, c6, c7, -⟩ := held2_next HH1.out hu.below; go_simp; with_reducible rfl) ?_
            simp only [Act.put, List.setIfInBounds_toArray, List.set_cons_zero, List.set_cons_succ]
            refine Steady.takeM ?_ rfl (by intro s u hu; go_simp; with_reducible rfl) ?_
            simp only [Act.put, List.setIfInBounds_toArray, List.set_cons_zero, List.set_cons_succ]
            refine Steady.takeM ?_ rfl (by intro s u hu; obtain ⟨c0, c1, c2, c3, c4, c5, c6, c7, -⟩ := held2_next HH1.out hu.below; go_simp; with_reducible rfl) ?_
            simp only [Act.put, List.setIfInBounds_toArray, List.set_cons_zero, List.set_cons_succ]
            refine Steady.takeM ?_ rfl (by intro s u hu; go_simp; with_reducible rfl) ?_
            simp only [Act.put, List.setIfInBounds_toArray, List.set_cons_zero, List.set_cons_succ]
            refine Steady.callM _ _ _ rfl ?_ (Steady.keptM R.out) ?_
            · intro u
              go_simp
            simp only [Act.put, List.setIfInBounds_toArray, List.set_cons_zero, List.set_cons_succ]
            refine Steady.nilM ?_
            intro p w2 hmade
            obtain ⟨hb2, nX, rfl, hn, hw2⟩ := hmade
            obtain ⟨g0, g1, g2, g3, -, -, -, -, r⟩ := held2_next HH1.out hb2
            obtain ⟨p1, p2, p3, p4⟩ := HX.out
            have hn' : wz.heap.size ≤ nX := hn
            have hnx : nL < nX ∧ nM < nX ∧ nS < nX ∧ w.heap.size < nX := ⟨by omega, by omega, by omega, by omega⟩
            have HH2 := Lib.hid (held2_set (held2_set (held2_set (held2_set (held2_next HH1.out hb2) hnx 0 (.int .u32 (V.a : Int))) hnx 1 (.int .u32 (V.b : Int))) hnx 2 (.int .u32 (V.c : Int))) hnx 3 (.int .u32 (V.d : Int)))
            have HWN := Lib.hid (set_four hw2 (.int .u32 (V.a : Int)) (.int .u32 (V.b : Int)) (.int .u32 (V.c : Int)) (.int .u32 (V.d : Int)))
            have f0 : w2.frozen? ⟨nX, 0, none⟩ = false := hw2.row.free (by simp)
            have f1 : w2.frozen? ⟨nX, 1, none⟩ = false := hw2.row.free (by simp)
            have f2 : w2.frozen? ⟨nX, 2, none⟩ = false := hw2.row.free (by simp)
            have f3 : w2.frozen? ⟨nX, 3, none⟩ = false := hw2.row.free (by simp)
            have z0 : w2.cell? ⟨nX, 0, none⟩ = some (.int .u32 0) := hw2.row.cell rfl
            have z1 : w2.cell? ⟨nX, 1, none⟩ = some (.int .u32 0) := hw2.row.cell rfl
            have z2 : w2.cell? ⟨nX, 2, none⟩ = some (.int .u32 0) := hw2.row.cell rfl
            have z3 : w2.cell? ⟨nX, 3, none⟩ = some (.int .u32 0) := hw2.row.cell rfl
            have HNE := Lib.hid (Nat.ne_of_gt hnx.2.1)
            clear hb2 hn hn' hw2 g0 g1 g2 g3 r p1 p2 p3 p4 hnx
            simp only [List.setIfInBounds_toArray, List.set_cons_zero, List.set_cons_succ]
            go_wp2
            go_meet
            obtain ⟨g0, g1, g2, g3, -, -, -, -, r⟩ := HH2.out
            exact ⟨_, rfl, HWN.out, HNE.out, HNL.out, g0, g1, g2, g3, r.law, r.room⟩
          case rest =>
            obtain ⟨nX, rfl, hwx, hx1, hx2, g0, g1, g2, g3, hl, hr⟩ := hcut
            have HI := Lib.hid (show Inn w s nM nS Y nL nX k b1 c1 d1 V _ from ⟨hl, g0, g1, g2, g3, hwx⟩)
            have HNX2 := Lib.hid hx1
            have HNX3 := Lib.hid hx2
            clear hwx hx1 hx2 g0 g1 g2 g3 hl hr HH1 HX R HNL HML
            go_wp2
            obtain ⟨wo2, rfl⟩ : ∃ wo : World, wo = wr := ⟨_, rfl⟩
            go_loopw [73] (fun i wr => ∃ m : Nat, m ≤ 4 ∧ i = .int .i64 m ∧ Inn w s nM nS (puts Y k b1 c1 d1 V m) nL nX k b1 c1 d1 V wr) (fun i _ => 4 - (intOf i).toNat)
            case atStart => exact ⟨0, by omega, rfl, HI.out⟩
            case round =>
              obtain ⟨m, hm4, rfl, hk⟩ := hrel
              by_cases hlm : m < 4
              · have hY := HYL.out
                obtain ⟨pi, pv, hnext, hpi, hcl, hcx⟩ : ∃ pi pv : Nat, puts Y k b1 c1 d1 V (m + 1) = (puts Y k b1 c1 d1 V m).set pi pv ∧ pi < 16 ∧ wr.cell? ⟨nL, m, none⟩ = some (.int .i64 (pi : Int)) ∧ wr.cell? ⟨nX, m, none⟩ = some (.int .u32 (pv : Int)) := by
                  obtain rfl | rfl | rfl | rfl : m = 0 ∨ m = 1 ∨ m = 2 ∨ m = 3 := by omega
                  · exact ⟨k, V.a, rfl, by omega, hk.l0, hk.x.row.cell rfl⟩
                  · exact ⟨b1, V.b, rfl, lb, hk.l1, hk.x.row.cell rfl⟩
                  · exact ⟨c1, V.c, rfl, lc, hk.l2, hk.x.row.cell rfl⟩
                  · exact ⟨d1, V.d, rfl, ld, hk.l3, hk.x.row.cell rfl⟩
                have hplen : (puts Y k b1 c1 d1 V m).length = 16 := by rw [puts_length _ _ _ _ _ _ _ (by omega)]; exact hY
                have cm := word_cell hk.law.m (i := pi) (by omega)
                have fm := word_free hk.law.m (i := pi) (by omega)
                have HP := Lib.hid (hk.set pi pv hn1 HN2.out HNX3.out HNX2.out).drew
                have HQ := Lib.hid hnext
                have im : (m : Int) < 4 := by omega
                have ip : (pi : Int) < 16 := by omega
                have hd6 : decide ((m : Int) < 4) = true := by simp; omega
                generalize puts Y k b1 c1 d1 V m = PP at *
                clear hk hnext hplen hY HI
                go_wp2
                go_region
                all_goals go_wp2
                all_goals go_roundw
                case rel => exact ⟨m + 1, by omega, by go_num, by rw [HQ.out]; exact HP.out⟩
                case measure => simp [intOf]; omega
              · have hd6 : decide ((m : Int) < 4) = false := by simp; omega
                obtain rfl : m = 4 := by omega
                have hfin : Law w s nM nS (unslant X t (k + 1)) wr := by
                  rw [HNX.out]
                  exact hk.law
                have HF := Lib.hid hfin
                clear hk hfin HI HNX
                go_wp2
                go_roundw
                case rel => exact ⟨k + 1, by omega, by go_num, HF.out⟩
                case measure => simp [intOf]; omega
        · have hd4 : decide ((k : Int) < 4) = false := by simp; omega
          obtain rfl : k = 4 := by omega
          have HF := Lib.hid hk
          clear hk HE HX
          go_wp2
          go_roundw
          case rel => exact ⟨j + 1, by omega, by go_num, by rw [HN.out]; exact HF.out⟩
          case measure => simp [intOf]; omega
    · have hd2 : decide ((j : Int) < 2) = false := by simp; omega
      obtain rfl : j = 2 := by omega
      have hm2 := law_end hk HUN.out
      have HM2 := Lib.hid hm2
      have HS2 := Lib.hid hk.s0
      have HIS := Lib.hid (info16 HK.out.1)
      have HBL := Lib.hid hk.below
      have heq := fun u => eq_sixteen HK.out.1 u
      clear hk hm2 HLAW HUN HKM
      go_wp2_with ((first
        | (go_at_call 9; with_reducible refine (awake_any _).mono ?_; rintro e w5 ⟨rfl, hb5⟩)
        | (with_reducible refine wpList_load_mid rfl 23 (.tmp 4) rfl nM 0 rfl (wordsV s) _ HM2.out.range Try.underlying23 rfl HIS.out ?_)
        | (with_reducible refine wpList_load_mid rfl 23 (.tmp 1) rfl w.heap.size 0 rfl (wordsV s) _ HS2.out.range Try.underlying23 rfl HIS.out ?_)))
      go_ret
      exact ⟨rfl, HBL.out.trans (hb5.mono HBL.out.size)⟩
end Go.Proofs.Ytblheplpaiokkaa.LawBack
