/-
  Several texts as one (BkB, BkI, BkJ, BkS, BkN, BkG). Rows of package book in memory: an append of one record onto a row without room, whatever the record; the library's Clone, IndexFunc, Index, Contains and Clip at book's records; countAt, Count, counted and among: what the plain mathematics of the texts Bkl and Bkm says; all memory that was there is left as it was. Conditions: no list has more than 1000 records. The library's Clone at cells, Index, Contains and Clip at issues; among of package book: what the plain mathematics of the text Bkl says (add); all memory that was there is left as it was. Conditions: no list has more than 1000000 records. Count and counted of package book: what the plain mathematics of the text Bkl says; all memory that was there is left as it was. Conditions: no list has more than 1000 counts, none of them above 1000000 where one is added. More of the calculus of blocks (steps of a region that draws; a store of one cell that tells what else is as it was), and books of which one list is another. Conditions: those that each lemma names. New and Lift of package book: what the plain mathematics of the text Bkm says; all memory that was there is left as it was. Conditions: those that each theorem names. A store at the end of a region that draws, told with what else of memory is as it was; bytes that fit, of a longer key; lengths of names. Conditions: those that each lemma names.
-/
import Derived.Test.YtolmfimpaofefaaGreatDoorMBk
import Derived.Shelf.Abstract
import Derived.Lib.SliceRun
import Derived.ArgAppend
import Derived.BigQuiet
import Derived.Deep.QuietTactic
import Derived.Deep.RegionLaw
import Derived.Deep.AppendLies
namespace Go.Proofs.YtolmfimpaofefaaGreatDoor.Rec
open Go.RowKit Mur
section
variable {P : Program} {T E : TypeId} {sz bytes : Nat} {z : List Value} {α : Type} {f : α → List Value}
/-- The place of the first record of which the test holds, or -1. -/
def plc (p : α → Bool) : List α → Int
  | [] => -1
  | x :: l => if p x = true then 0 else if plc p l < 0 then -1 else plc p l + 1
end
end Go.Proofs.YtolmfimpaofefaaGreatDoor.Rec
namespace Go.Proofs.YtolmfimpaofefaaGreatDoor.Bkb
open Go.RowKit Mur Prt Lanes Tap Bkl Bkm Rec Cel Bkr
set_option maxRecDepth 100000
set_option linter.unusedSimpArgs false

/-- The test of countAt. -/
def whoIs (who : ByteArray) (x : List UInt8 × Nat) : Bool := (tx x.1).toList == who.toList
end Go.Proofs.YtolmfimpaofefaaGreatDoor.Bkb

namespace Go.Proofs.YtolmfimpaofefaaGreatDoor.Bkb
open Go.RowKit Mur Prt Lanes Tap Bkl Bkm Rec Cel Bkr
set_option maxRecDepth 100000
set_option linter.unusedSimpArgs false

/-- Cells as records. -/
def celF (x : K) : List Value := [.string x.1, .string x.2]
theorem celK : Kind Tryz.prog 22 51 2 32 [.string ⟨#[]⟩, .string ⟨#[]⟩] celF where
  und := Tryz.underlying22
  info := by kernel_rfl
  zlen := rfl
  pos := by decide
  few := by decide
  len := fun _ => rfl
  one := fun x u hu => by
    simp only [celF, List.mem_cons, List.not_mem_nil, or_false] at hu
    rcases hu with rfl | rfl <;> rfl
theorem cel_zero : (Value.agg ([.string ⟨#[]⟩, .string ⟨#[]⟩] : List Value).toArray).cells = ([.string ⟨#[]⟩, .string ⟨#[]⟩] : List Value).toArray := rfl
theorem cel_rec {w : World} {a : Option Addr} {l : List K} (h : CelR w a l) : RecR 2 celF w a l := fun hl => by
  obtain ⟨b, o, ha, hb, hc⟩ := h hl
  refine ⟨b, o, ha, hb, fun i x hx j u hu => ?_⟩
  obtain ⟨h1, h2⟩ := hc i x hx
  match j, hu with
  | 0, hu => cases hu; exact h1
  | 1, hu => cases hu; exact h2
theorem rec_cel {w : World} {a : Option Addr} {l : List K} (h : RecR 2 celF w a l) : CelR w a l := fun hl => by
  obtain ⟨b, o, ha, hb, hc⟩ := h hl
  exact ⟨b, o, ha, hb, fun i x hx => ⟨hc i x hx 0 _ rfl, hc i x hx 1 _ rfl⟩⟩

set_option maxHeartbeats 800000 in
theorem cloneL_any (l : List K) (n : Nat) (a : Option Addr) (c : Nat) (w : World) (hn : l.length = n) (hn2 : n ≤ 1000000) (ha : CelR w a l) :
    Calls Tryz.prog 47 #[.slice a n c] w fun e w' => ∃ ao co, e = .returned (.slice ao n co) ∧ n ≤ co ∧ CelR w' ao l ∧ (∀ q, ao = some q → w.heap.size ≤ q.block) ∧ Below w.heap.size w w' := by
  have HA := Lib.hid (cel_rec ha)
  have HN := Lib.hid hn
  clear ha hn
  cases a with
  | none =>
    have hl : l = [] := Classical.byContradiction fun h => by
      obtain ⟨b, o, h1, _⟩ := HA.out (fun e => h (List.eq_nil_of_length_eq_zero e))
      cases h1
    subst hl
    obtain rfl : n = 0 := HN.out.symm
    have hnil := fun u => Lib.run_eql_slice_nil (P := Tryz.prog) u 22 51 none 0 c 0 0 Tryz.underlying22
    go_enter Tryz.func47, Tryz.ntmps47
    go_wp2
    go_ret
    exact ⟨_, _, rfl, Nat.le_refl _, CelR.none _ _, (fun q hq => by cases hq), Below.refl _ _⟩
  | some a =>
    have hnil := fun u => Lib.run_eql_slice_nil (P := Tryz.prog) u 22 51 (some a) n c 0 0 Tryz.underlying22
    go_enter Tryz.func47, Tryz.ntmps47
    go_wp2_with (at_builtin; refine append_rec celK cel_zero rfl _ _ rfl w.heap.size 0 _ [] l _ n c rfl rfl (own_empty w w.heap.size (Nat.le_refl _) _) (HA.out.below ((Below.refl w.heap.size w).alloc (Nat.le_refl _) _)) HN.out (by omega) (by simp) ?_; intro v' w4 hown4 hgrow4)
    rw [List.nil_append, Nat.zero_add] at hown4
    have HW := Lib.hid (((Below.refl w.heap.size w).alloc (Nat.le_refl _) (.cells #[] 51)).grown hgrow4 (by simp) (fun q hq => by cases hq; exact Nat.le_refl _))
    obtain ⟨ao, co, rfl, -, hco, hi, hlow⟩ := own_rec celK.len celK.pos hown4
    have HI := Lib.hid (And.intro hco (And.intro (rec_cel hi) hlow))
    clear hown4 hgrow4 hco hi hlow
    go_ret
    exact ⟨ao, co, rfl, HI.out.1, HI.out.2.1, HI.out.2.2, HW.out⟩

/-- The test of Index. -/
def issIs (y x : Iss) : Bool := decide (y = x)
def eqV (y x : Iss) : Bool := ((tx y.1).toList == (tx x.1).toList) && (((tx y.2.1).toList == (tx x.2.1).toList) && ((tx y.2.2).toList == (tx x.2.2).toList))
end Go.Proofs.YtolmfimpaofefaaGreatDoor.Bkb

namespace Go.Proofs.YtolmfimpaofefaaGreatDoor.Bkb
open Go.RowKit Mur Prt Lanes Tap Bkl Bkm Rec Cel Bkr
end Go.Proofs.YtolmfimpaofefaaGreatDoor.Bkb

namespace Go.Proofs.YtolmfimpaofefaaGreatDoor.Hold
open Go Go.RowKit Mur
section
variable {P : Program} {ops : Array Oper} {rest : List Oper} {op : Oper} {a : Act} {w w0 : World} {m : List Blk} {Q : Exit → Act → World → Prop} {K : Act → World → Prop} {E : Prop}
theorem store1K (h : Hld w0 m w) (i : Nat) {b o : Nat} {t ty : TypeId} {v v' : List Value} {c : Value} {x y : Operand} (hg : op.guard = none) (ho : op.op = .store ty x y) (hx : a.eval x = .pointer (some ⟨b, o, none⟩)) (hy : a.eval y = c) (hi : m[i]? = some ⟨b, t, v⟩) (hl : o < v.length) (hv : v.set o c = v') (h1 : c.cells = #[c] ∧ c.oneCell' = true) (hr : TyCell P ty)
    (hk : ∀ w', But b w w' → Hld w0 (m.set i ⟨b, t, v'⟩) w' → wpList P ops Q rest (a.put op.dst undef) w') : wpList P ops Q (op :: rest) a w := by
  obtain ⟨d, hu, hd, hs⟩ := hr
  subst hv
  have hth := h.there i hi o 1 (by show o + 1 ≤ v.length; omega)
  have hst := run_storeCells_cells (P := P) b o [c] 0 w (by intro j hj; simpa using (hth j (by simpa using hj)).1) (by intro j hj; simpa using (hth j (by simpa using hj)).2) (by
    intro z hz
    obtain rfl := List.mem_singleton.1 hz
    exact h1.2)
  rw [Nat.add_zero] at hst
  have hrun : (storeVar ty ⟨b, o, none⟩ c).run P w = .ok () (w.setCells b o [c]) := by
    cases hq : P.info? ty with
    | none => simp [hq] at hs
    | some i =>
      have hs1 : i.size = 1 := by simpa [hq] using hs
      simp [storeVar, sizeOf, typeInfo, hq, h1.1, hs1, hst]
  refine wpList_plain hg fun K hK => ?_
  unfold Oper.wp execOp
  simp only [ho, hx, hy, Instr.storeAt, Instr.sureAddr, Sem.run_bind, Sem.run_pure, Result.andThen_ok, hrun]
  exact hK _ _ (hk _ (but_sets [c] w b o) (h.set i hi o [c]))
/-- A call that comes up in a region that draws: its answer hangs on the world. -/
theorem cell_sl (a : Option Addr) (n c : Nat) : (Value.slice a n c).cells = #[Value.slice a n c] ∧ (Value.slice a n c).oneCell' = true := ⟨rfl, rfl⟩
theorem single_set {v : List Value} {i : Nat} {x : Value} (h : Single v) (hx : x.oneCell' = true) : Single (v.set i x) := by
  unfold Single at *
  rw [Array.all_eq_true_iff_forall_mem] at *
  intro u hu
  have hu' : u ∈ v.set i x := by simpa using hu
  rcases List.mem_or_eq_of_mem_set hu' with h1 | rfl
  · exact h u (by simpa using h1)
  · exact hx
end
end Go.Proofs.YtolmfimpaofefaaGreatDoor.Hold
namespace Go.Proofs.YtolmfimpaofefaaGreatDoor.Bkr
open Go.RowKit Mur Prt Lanes Tap Bkl Bkm Rec Cel
set_option maxRecDepth 100000
set_option linter.unusedSimpArgs false

theorem Lies.one {α : Type} {R : World → Option Addr → List α → Prop} {A : Nat → Prop} {w : World} {u : Value} {l : List α} (h : Lies R A w (some u) l) : u.oneCell' = true := by
  obtain ⟨a, n, c, h1, -⟩ := h
  cases h1
  rfl
theorem at_eq {v : List Value} (h : v.length = 11) (i : Nat) (hi : i < 11) (x : Value) : (v.set i x)[i]? = some x := by
  rw [List.getElem?_set, if_pos rfl, if_pos (by omega)]
theorem at_ne (v : List Value) (i j : Nat) (h : i ≠ j) (x : Value) : (v.set i x)[j]? = v[j]? := by
  rw [List.getElem?_set, if_neg h]
section
variable {w : World} {b : Bk} {v : List Value} {A : Nat → Prop} {u : Value}
theorem BkR.set4 (h : BkR w b v A) {L : List C} (hl : Lies CelRb A w (some u) L) : BkR w { b with cells := L } (v.set 4 u) A :=
  ⟨by rw [List.length_set]; exact h.len, Hold.single_set h.one hl.one, by rw [at_ne _ _ _ (by decide)]; exact h.at0, by rw [at_ne _ _ _ (by decide)]; exact h.at1, by rw [at_ne _ _ _ (by decide)]; exact h.at2, by rw [at_ne _ _ _ (by decide)]; exact h.at3, by rw [at_eq h.len _ (by decide)]; exact hl, by rw [at_ne _ _ _ (by decide)]; exact h.at5, by rw [at_ne _ _ _ (by decide)]; exact h.at6, by rw [at_ne _ _ _ (by decide)]; exact h.at7, by rw [at_ne _ _ _ (by decide)]; exact h.at8, by rw [at_ne _ _ _ (by decide)]; exact h.at9, by rw [at_ne _ _ _ (by decide)]; exact h.at10, h.names⟩
theorem BkR.set5 (h : BkR w b v A) {L : List C} (hl : Lies CelRb A w (some u) L) (hnm : ∀ c ∈ L, c.1.length ≤ 1000000) : BkR w { b with used := L } (v.set 5 u) A :=
  ⟨by rw [List.length_set]; exact h.len, Hold.single_set h.one hl.one, by rw [at_ne _ _ _ (by decide)]; exact h.at0, by rw [at_ne _ _ _ (by decide)]; exact h.at1, by rw [at_ne _ _ _ (by decide)]; exact h.at2, by rw [at_ne _ _ _ (by decide)]; exact h.at3, by rw [at_ne _ _ _ (by decide)]; exact h.at4, by rw [at_eq h.len _ (by decide)]; exact hl, by rw [at_ne _ _ _ (by decide)]; exact h.at6, by rw [at_ne _ _ _ (by decide)]; exact h.at7, by rw [at_ne _ _ _ (by decide)]; exact h.at8, by rw [at_ne _ _ _ (by decide)]; exact h.at9, by rw [at_ne _ _ _ (by decide)]; exact h.at10, hnm⟩
theorem BkR.shape (h : BkR w b v A) : Hold.Part v 2 [.int .i64 2, .int .i64 1] := fun j u hu => by
  match j, hu with
  | 0, hu => rw [← hu]; exact h.at2
  | 1, hu => rw [← hu]; exact h.at3
end
theorem shapeRow : Hold.TyRow Tryz.prog 26 2 := ⟨_, Tryz.underlying26, rfl, by kernel_rfl⟩
theorem cellInt : Hold.TyCell Tryz.prog 3 := ⟨_, Tryz.underlying3, rfl, by kernel_rfl⟩
theorem cellStr : Hold.TyCell Tryz.prog 9 := ⟨_, Tryz.underlying9, rfl, by kernel_rfl⟩
theorem cellBool : Hold.TyCell Tryz.prog 4 := ⟨_, Tryz.underlying4, rfl, by kernel_rfl⟩
theorem right21 : Chn.Right 2 1 := by unfold Chn.Right; omega
/-- Where a call's lists may lie, and in none of the blocks that it holds. -/
def In (A : Nat → Prop) (m : List Hold.Blk) (k : Nat) : Prop := A k ∧ Off m k
theorem off_nil (k : Nat) : Off [] k := fun x hx => by cases hx
section
variable {w w' w0 : World} {b : Bk} {v : List Value} {A : Nat → Prop} {m : List Hold.Blk}
theorem BkR.start (h : BkR w b v A) : BkR w b v (In (fun k => A k ∨ w.heap.size ≤ k) []) := h.mono fun k _ hk => ⟨Or.inl hk, off_nil k⟩
theorem BkR.allocA {n : Nat} {t : TypeId} {z : List Value} (h : BkR w b v (In A m)) (hn : w.heap.size ≤ n) (k : Below w.heap.size w w') : BkR w' b v (In A (m ++ [⟨n, t, z⟩])) :=
  (h.mono (A' := In A (m ++ [⟨n, t, z⟩])) fun j hj ho => ⟨ho.1, off_snoc ho.2 (by show n ≠ j; omega)⟩).below k
theorem BkR.storedA {n i : Nat} {t : TypeId} {z z' : List Value} (h : BkR w b v (In A m)) (hi : m[i]? = some ⟨n, t, z⟩) (k : Hold.But n w w') : BkR w' b v (In A (m.set i ⟨n, t, z'⟩)) := by
  have h2 := h.but k fun j hj => fun e => hj.2 _ (List.mem_of_getElem? hi) e.symm
  refine h2.mono fun j _ hj => ⟨hj.1, fun x hx => ?_⟩
  rcases List.mem_or_eq_of_mem_set hx with hx | rfl
  · exact hj.2 x hx
  · exact hj.2 ⟨n, t, z⟩ (List.mem_of_getElem? hi)
theorem BkR.answeredA (h : BkR w' b v (fun k => In A m k ∨ w.heap.size ≤ k)) (hm : Hold.Hld w0 m w) (hA : ∀ k, w.heap.size ≤ k → A k) : BkR w' b v (In A m) :=
  h.mono fun k _ hk => hk.elim id fun h1 => ⟨hA k h1, fun x hx e => by
    have := (hm.whole x hx).lt
    omega⟩
theorem BkR.doneA (h : BkR w b v (In A m)) : BkR w b v A := h.mono fun _ _ hk => hk.1
theorem lies_newA {α : Type} {R : World → Option Addr → List α → Prop} {a : Option Addr} {n c : Nat} {l : List α} (hm : Hold.Hld w0 m w) (hA : ∀ k, w.heap.size ≤ k → A k) (hR : R w' a l) (hn : l.length = n) (hc : n ≤ c) (hq : ∀ q, a = some q → w.heap.size ≤ q.block) : Lies R (In A m) w' (some (.slice a n c)) l :=
  ⟨a, n, c, rfl, hn, hc, hR, fun _ q h => ⟨hA _ (hq q h), fun x hx e => by
    have := (hm.whole x hx).lt
    have := hq q h
    omega⟩⟩
/-- A field that is a slice. -/
theorem Lies.lit {α : Type} {R : World → Option Addr → List α → Prop} {u : Option Value} {l : List α} (h : Lies R A w u l) : ∃ a n c, u = some (.slice a n c) ∧ l.length = n ∧ n ≤ c ∧ R w a l ∧ Lies R A w (some (.slice a n c)) l := by
  obtain ⟨a, n, c, h1, h2, h3, h4, h5⟩ := h
  exact ⟨a, n, c, h1, h2, h3, h4, ⟨a, n, c, rfl, h2, h3, h4, h5⟩⟩
end
end Go.Proofs.YtolmfimpaofefaaGreatDoor.Bkr

namespace Go.Proofs.YtolmfimpaofefaaGreatDoor.Bkb
open Go.RowKit Mur Prt Lanes Tap Bkl Bkm Rec Cel Bkr
set_option maxRecDepth 100000
set_option linter.unusedSimpArgs false

theorem nil_cel (A : Nat → Prop) (w : World) : Lies CelRb A w (some (.slice none 0 0)) [] := ⟨none, 0, 0, rfl, rfl, Nat.le_refl _, CelR.none _ _, fun h => absurd rfl h⟩
theorem nil_rec {α : Type} {sz : Nat} {f : α → List Value} (A : Nat → Prop) (w : World) : Lies (RecR sz f) A w (some (.slice none 0 0)) [] := ⟨none, 0, 0, rfl, rfl, Nat.le_refl _, RecR.none _ _, fun h => absurd rfl h⟩
/-- A new book's cells. -/
def newV (ideal : Bool) (seed : ByteArray) (a : Option Addr) (n c : Nat) : List Value := [.bool ideal, .string seed, .int .i64 2, .int .i64 1, .slice a n c, .slice none 0 0, .slice none 0 0, .slice none 0 0, .slice none 0 0, .slice none 0 0, .slice none 0 0]
theorem newV_set (ideal : Bool) (seed : ByteArray) (a : Option Addr) (n c : Nat) : (newV ideal seed none 0 0).set 4 (.slice a n c) = newV ideal seed a n c := rfl
theorem newV_one (ideal : Bool) (seed : ByteArray) (a : Option Addr) (n c : Nat) : Hold.Single (newV ideal seed a n c) := by unfold Hold.Single newV; simp [Value.oneCell']
theorem newV_row (ideal : Bool) (seed : ByteArray) (a : Option Addr) (n c : Nat) : Hold.TyRow Tryz.prog 30 (newV ideal seed a n c).length := bkRow
theorem new_bk {w : World} {A : Nat → Prop} (ideal : Bool) (seed : ByteArray) (L : List C) (a : Option Addr) (n c : Nat) (h : Lies CelRb A w (some (.slice a n c)) L) : BkR w ⟨ideal, seed.data.toList, L, [], [], [], [], [], []⟩ (newV ideal seed a n c) A :=
  ⟨rfl, newV_one _ _ _ _ _, rfl, by rw [show tx seed.data.toList = seed from tx_data seed]; rfl, rfl, rfl, h, nil_cel A w, nil_rec A w, nil_rec A w, nil_rec A w, nil_rec A w, nil_rec A w, fun c hc => by cases hc⟩
def shV : List Value := [.int .i64 2, .int .i64 1]
theorem shV_row : Hold.TyRow Tryz.prog 26 shV.length := shapeRow
theorem newV_len (ideal : Bool) (seed : ByteArray) (a : Option Addr) (n c : Nat) : (newV ideal seed a n c).length = 11 := rfl

set_option maxHeartbeats 1600000 in
theorem new_any (ideal : Bool) (seed : ByteArray) (l : List K) (n : Nat) (a : Option Addr) (c : Nat) (b : Bk) (w : World) (hb : b = newB ideal seed.data.toList (toC l)) (ha : CelR w a l) (hn : l.length = n) (hn2 : n ≤ 1000) (_ : n ≤ c) :
    Calls Tryz.prog 22 #[.bool ideal, .string seed, .agg #[.int .i64 2, .int .i64 1], .slice a n c] w fun e w' => ∃ v, e = .returned (.tuple #[.agg v.toArray, .int .i64 0]) ∧ BkR w' b v (fun k => w.heap.size ≤ k) ∧ Below w.heap.size w w' := by
  have hbu : ∀ i : Bool, Tryz.prog.built 30 [(0, .bool i), (1, .string seed), (2, .agg shV.toArray)] = some (newV i seed none 0 0).toArray := fun i => by kernel_rfl
  have R1 := Lib.hid (fun u => Chn.right_yes 2 1 right21 u)
  have R2 := Lib.hid (fun u (hu : Below w.heap.size w u) => cloneL_any l n a c u hn (by omega) (ha.below hu))
  have HM := Lib.hid (Hold.Hld.start w)
  have HN := Lib.hid hn
  have hsh : (Value.agg #[.int .i64 2, .int .i64 1]) = .agg shV.toArray := rfl
  have HBU := Lib.hid hbu
  have HB := Lib.hid hb
  clear hn ha hbu hb
  rw [hsh] at R1 ⊢
  cases ideal with
  | false =>
    go_enter Tryz.func22, Tryz.ntmps22
    go_wp2_with ((first
      | (with_reducible refine Hold.box HM.out rfl rfl rfl ?_; clear HM; intro b1 w HM; simp only [List.nil_append] at HM; replace HM := Lib.hid HM)
      | (with_reducible refine Hold.alloc HM.out rfl rfl zeroBk zero_bk ?_; clear HM; intro b2 w HM; simp only [List.nil_append, List.cons_append] at HM; replace HM := Lib.hid HM)
      | (with_reducible refine Hold.load HM.out 0 (cs := shV) rfl rfl rfl rfl (Hold.Part.all _) shV_row ?_)
      | ((with_reducible refine (R1.out _).mono ?_); rintro e w ⟨rfl, hb⟩; replace HM := Lib.hid (HM.out.next hb); clear hb)
      | ((refine Hold.build (t := 30) (parts := #[(0, .tmp 15), (1, .tmp 16), (2, .tmp 17)]) (cs := newV false seed none 0 0) rfl rfl ?_ ?_); focus (exact HBU.out false))
      | (with_reducible refine Hold.store HM.out 2 (v' := newV false seed none 0 0) rfl rfl rfl rfl rfl (bkFits (newV_len _ _ _ _ _) zero_len) (bkLaid (newV_len _ _ _ _ _) zero_len) (newV_one _ _ _ _ _) (newV_row _ _ _ _ _) ?_; clear HM; intro w HM; simp only [List.set_cons_zero, List.set_cons_succ] at HM; replace HM := Lib.hid HM)
      | (with_reducible refine Hold.load HM.out 2 (cs := newV false seed none 0 0) rfl rfl rfl rfl (Hold.Part.all _) (newV_row _ _ _ _ _) ?_)
      | (with_reducible refine Hold.store HM.out 1 (v' := newV false seed none 0 0) rfl rfl rfl rfl rfl (bkFits (newV_len _ _ _ _ _) zero_len) (bkLaid (newV_len _ _ _ _ _) zero_len) (newV_one _ _ _ _ _) (newV_row _ _ _ _ _) ?_; clear HM; intro w HM; simp only [List.set_cons_zero, List.set_cons_succ] at HM; replace HM := Lib.hid HM)))
    refine bodyPost_ret (Hold.resultsCT HM.out 1 rfl _ rfl rfl rfl (newV_row _ _ _ _ _)) rfl ?_
    refine ⟨newV false seed none 0 0, rfl, ?_, HM.out.below⟩
    rw [HB.out]
    exact new_bk false seed _ none 0 0 (nil_cel _ _)
  | true =>
    have HV : Hid (BkR w ⟨true, seed.data.toList, [], [], [], [], [], [], []⟩ (newV true seed none 0 0) (In (fun k => w.heap.size ≤ k) [])) := Lib.hid ((new_bk true seed [] none 0 0 (nil_cel (fun _ => False) w)).mono fun k _ hk => hk.elim)
    have HSZ := Lib.hid (fun (u : World) (hu : Below w.heap.size w u) (k : Nat) (hk : u.heap.size ≤ k) => Nat.le_trans hu.size hk)
    go_enter Tryz.func22, Tryz.ntmps22
    go_wp2_with ((first
      | ((with_reducible refine Hold.boxK HM.out rfl rfl rfl ?_); clear HM; intro b1 w hn hb HM; simp only [List.nil_append] at HM; replace HM := Lib.hid HM; replace HV := Lib.hid (HV.out.allocA (t := 26) (z := shV) hn hb); clear hn hb)
      | ((with_reducible refine Hold.allocK HM.out rfl rfl zeroBk zero_bk ?_); clear HM; intro b2 w hn hb HM; simp only [List.nil_append, List.cons_append] at HM; replace HM := Lib.hid HM; replace HV := Lib.hid (HV.out.allocA (t := 30) (z := zeroBk) hn hb); clear hn hb)
      | (with_reducible refine Hold.load HM.out 0 (cs := shV) rfl rfl rfl rfl (Hold.Part.all _) shV_row ?_)
      | ((with_reducible refine (R1.out _).mono ?_); rintro e w ⟨rfl, hb⟩; replace HM := Lib.hid (HM.out.next hb); replace HV := Lib.hid (HV.out.below hb); clear hb)
      | ((refine Hold.build (t := 30) (parts := #[(0, .tmp 15), (1, .tmp 16), (2, .tmp 17)]) (cs := newV true seed none 0 0) rfl rfl ?_ ?_); focus (exact HBU.out true))
      | ((with_reducible refine Hold.storeK HM.out 2 (v' := newV true seed none 0 0) rfl rfl rfl rfl rfl (bkFits (newV_len _ _ _ _ _) zero_len) (bkLaid (newV_len _ _ _ _ _) zero_len) (newV_one _ _ _ _ _) (newV_row _ _ _ _ _) ?_); clear HM; intro w hbt HM; simp only [List.set_cons_zero, List.set_cons_succ] at HM; replace HM := Lib.hid HM; replace HV := Lib.hid (HV.out.storedA (i := 2) (z' := newV true seed none 0 0) rfl hbt); clear hbt)
      | ((with_reducible refine (R2.out _ HM.out.below).mono ?_); rintro e w1 ⟨ao, co, rfl, hco, hR, hlow, hb⟩; replace HV := Lib.hid ((HV.out.below hb).set4 (lies_newA HM.out (HSZ.out _ HM.out.below) (R := CelRb) (by show CelR _ _ (ofC (toC l)); rw [ofC_toC]; exact hR) (by rw [toC_length]; exact HN.out) hco hlow)); clear hlow hR hco; replace HM := Lib.hid (HM.out.next hb); clear hb)
      | ((with_reducible refine Hold.store1K HM.out 2 (c := .slice ao n co) (v' := newV true seed ao n co) rfl rfl rfl rfl rfl (by rw [newV_len]; decide) (newV_set _ _ _ _ _) (Hold.cell_sl _ _ _) cellC ?_); clear HM; intro w hbt HM; simp only [List.set_cons_zero, List.set_cons_succ] at HM; replace HM := Lib.hid HM; replace HV := Lib.hid (HV.out.storedA (i := 2) (z' := newV true seed ao n co) rfl hbt); clear hbt)
      | (with_reducible refine Hold.load HM.out 2 (cs := newV true seed ao n co) rfl rfl rfl rfl (Hold.Part.all _) (newV_row _ _ _ _ _) ?_)
      | ((with_reducible refine Hold.storeK HM.out 1 (v' := newV true seed ao n co) rfl rfl rfl rfl rfl (bkFits (newV_len _ _ _ _ _) zero_len) (bkLaid (newV_len _ _ _ _ _) zero_len) (newV_one _ _ _ _ _) (newV_row _ _ _ _ _) ?_); clear HM; intro w hbt HM; simp only [List.set_cons_zero, List.set_cons_succ] at HM; replace HM := Lib.hid HM; replace HV := Lib.hid (HV.out.storedA (i := 1) (z' := newV true seed ao n co) rfl hbt); clear hbt)))
    refine bodyPost_ret (Hold.resultsCT HM.out 1 rfl _ rfl rfl rfl (newV_row _ _ _ _ _)) rfl ?_
    refine ⟨newV true seed ao n co, rfl, ?_, HM.out.below⟩
    rw [HB.out]
    exact HV.out.doneA
end Go.Proofs.YtolmfimpaofefaaGreatDoor.Bkb

namespace Go.Proofs.YtolmfimpaofefaaGreatDoor.Hold
open Go Go.RowKit Mur
section
variable {P : Program} {ops : Array Oper} {op : Oper} {a : Act} {w w0 : World} {m : List Blk} {Q : Exit → Act → World → Prop}
theorem op_storeK {i : Nat} {K : Act → World → Prop} {x y : Operand} {ty t : TypeId} {b o : Nat} {v cs v' : List Value} (h : Hld w0 m w) (k : Nat) (hi : ops[i]? = some op) (hg : op.guard = none) (ho : op.op = .store ty x y) (hx : a.eval x = .pointer (some ⟨b, o, none⟩)) (hy : a.eval y = .agg cs.toArray) (hk : m[k]? = some ⟨b, t, v⟩) (hl : o + cs.length ≤ v.length) (hv : lay v o cs = v') (h1 : Single cs) (hr : TyRow P ty cs.length)
    (hK : ∀ w', But b w w' → Hld w0 (m.set k ⟨b, t, v'⟩) w' → K (a.put op.dst undef) w') : wpOp P ops Q i K a w := by
  obtain ⟨d, hu, hd, hs⟩ := hr
  subst hv
  unfold wpOp
  simp only [hi]
  rw [if_pos (by simp [Region.wanted, hg])]
  refine .inl ?_
  refine wp_store_mid ty x y ho b o cs.toArray hx hy (by simpa using h.there k hk o cs.length hl) (by simpa using hs) h1 ?_
  exact hK _ (but_sets _ w b o) (by simpa using h.set k hk o cs)
end
end Go.Proofs.YtolmfimpaofefaaGreatDoor.Hold
namespace Go.Proofs.YtolmfimpaofefaaGreatDoor.Bkb
open Go.RowKit Mur Prt Lanes Tap Bkl Bkm Rec Cel Bkr
set_option maxRecDepth 100000

theorem fit_less (s t : List UInt8) (n : Int) (h : s.take (many n) = t.take (many n)) (h1 : many n ≤ s.length) (h2 : many n ≤ t.length) : fit s n = fit t n := by
  show (s ++ List.replicate (many n) 0).take (many n) = (t ++ List.replicate (many n) 0).take (many n)
  rw [List.take_append_of_le_length h1, List.take_append_of_le_length h2, h]
/-- What source answers. -/
def srcS (b : Bk) (name : List UInt8) (n : Int) : List UInt8 := if b.ideal = true then (get b.cells name).getD [] else Ked.derive b.seed (Ked.many n) [cellT, name]
theorem fit_src (b : Bk) (name : List UInt8) (n : Int) : fit (srcS b name n) n = freshS b name n := by
  unfold srcS freshS
  split
  · rfl
  · have h1 : many n ≤ Ked.many n := by unfold many Ked.many; omega
    have h2 : Ked.many n ≤ 8160 := Ked.many_le n
    refine fit_less _ _ _ ?_ ?_ ?_
    · show ((Ked.all _ _ 255).take (Ked.many n)).take (many n) = ((Ked.all _ _ 255).take (many n)).take (many n)
      rw [List.take_take, List.take_take, Nat.min_eq_left h1, Nat.min_self]
    · show many n ≤ (Ked.expand _ _ _).length
      rw [Ked.expand_length _ _ _ h2]
      exact h1
    · show many n ≤ (Ked.expand _ _ _).length
      rw [Ked.expand_length _ _ _ (by omega)]
      exact Nat.le_refl _
theorem put_names {l : List C} {n s : List UInt8} (h : ∀ c ∈ l, c.1.length ≤ 1000000) (hn : n.length ≤ 1000000) : ∀ c ∈ put l n s, c.1.length ≤ 1000000 := by
  have hf : ∀ (l : List C) (d : Bool), (∀ c ∈ l, c.1.length ≤ 1000000) → ∀ c ∈ putF n s d l, c.1.length ≤ 1000000 := by
    intro l
    induction l with
    | nil =>
      intro d _ c hc
      cases d
      · simp [putF] at hc
        rw [hc]
        exact hn
      · simp [putF] at hc
    | cons x l ih =>
      intro d hl c hc
      have hl' : ∀ c ∈ l, c.1.length ≤ 1000000 := fun c hc => hl c (List.mem_cons_of_mem _ hc)
      rw [RTap.putF_cons] at hc
      split at hc
      · split at hc
        · exact ih _ hl' c hc
        · rcases List.mem_cons.1 hc with rfl | hc
          · exact hn
          · exact ih _ hl' c hc
      · rcases List.mem_cons.1 hc with rfl | hc
        · exact hl _ List.mem_cons_self
        · exact ih _ hl' c hc
  exact hf l false h
end Go.Proofs.YtolmfimpaofefaaGreatDoor.Bkb
