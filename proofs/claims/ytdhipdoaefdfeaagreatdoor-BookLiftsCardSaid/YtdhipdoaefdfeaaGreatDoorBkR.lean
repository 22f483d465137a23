/-
  A book (chapter 16) in memory: eleven cells, seven of them slices, each read where it lies; the shape of the statements. Conditions: those that each lemma names.
-/
import Derived.Test.YtdhipdoaefdfeaaGreatDoorBkm
import Derived.Test.YtdhipdoaefdfeaaGreatDoorRec
import Derived.Test.YtdhipdoaefdfeaaGreatDoorHoldK
import Derived.Test.YtdhipdoaefdfeaaGreatDoorMTap
namespace Go.Proofs.YtdhipdoaefdfeaaGreatDoor.Bkr
open Go.RowKit Mur Prt Lanes Tap Bkl Bkm Rec Cel
set_option maxRecDepth 100000
set_option linter.unusedSimpArgs false


def cntV (c : List UInt8 × Nat) : List Value := [.string (tx c.1), .int .i64 (c.2 : Int)]
def issV (x : Iss) : List Value := [.string (tx x.1), .string (tx x.2.1), .string (tx x.2.2)]
def numV (n : Nat) : List Value := [.int .i64 (n : Int)]
theorem cntK : Kind Tryz.prog 27 73 2 24 [.string ⟨#[]⟩, .int .i64 0] cntV where
  und := Tryz.underlying27
  info := by kernel_rfl
  zlen := rfl
  pos := by decide
  few := by decide
  len := fun _ => rfl
  one := fun x u hu => by
    simp only [cntV, List.mem_cons, List.not_mem_nil, or_false] at hu
    rcases hu with rfl | rfl <;> rfl
theorem issK : Kind Tryz.prog 28 42 3 48 [.string ⟨#[]⟩, .string ⟨#[]⟩, .string ⟨#[]⟩] issV where
  und := Tryz.underlying28
  info := by kernel_rfl
  zlen := rfl
  pos := by decide
  few := by decide
  len := fun _ => rfl
  one := fun x u hu => by
    simp only [issV, List.mem_cons, List.not_mem_nil, or_false] at hu
    rcases hu with rfl | rfl | rfl <;> rfl
abbrev CntR (w : World) (a : Option Addr) (l : List (List UInt8 × Nat)) : Prop := RecR 2 cntV w a l
abbrev IssR (w : World) (a : Option Addr) (l : List Iss) : Prop := RecR 3 issV w a l
abbrev NumR (w : World) (a : Option Addr) (l : List Nat) : Prop := RecR 1 numV w a l

/-- A slice's value is told by an address, its list is read there, and lies in a block of which A says so. -/
def Lies {α : Type} (R : World → Option Addr → List α → Prop) (A : Nat → Prop) (w : World) (u : Option Value) (l : List α) : Prop :=
  ∃ a n c, u = some (.slice a n c) ∧ l.length = n ∧ n ≤ c ∧ R w a l ∧ (l.length ≠ 0 → ∀ q, a = some q → A q.block)
def CelRb (w : World) (a : Option Addr) (l : List C) : Prop := CelR w a (ofC l)
theorem celRb_low {w : World} {a : Option Addr} {l : List C} (h : CelRb w a l) (hl : l.length ≠ 0) (q : Addr) (hq : a = some q) : q.block < w.heap.size := by
  obtain ⟨b, o, ha, hb, _⟩ := h (by rw [ofC_length]; exact hl)
  rw [hq] at ha
  cases ha
  exact hb
theorem rec_low {α : Type} {sz : Nat} {f : α → List Value} {w : World} {a : Option Addr} {l : List α} (h : RecR sz f w a l) (hl : l.length ≠ 0) (q : Addr) (hq : a = some q) : q.block < w.heap.size := by
  obtain ⟨b, o, ha, hb, _⟩ := h hl
  rw [hq] at ha
  cases ha
  exact hb
theorem celRb_but {n : Nat} {w w' : World} (k : Hold.But n w w') {a : Option Addr} {l : List C} (h : CelRb w a l) (hn : l.length ≠ 0 → ∀ q, a = some q → q.block ≠ n) : CelRb w' a l := fun hl => by
  obtain ⟨b, o, ha, hb, hc⟩ := h hl
  have hne : b ≠ n := hn (by rwa [ofC_length] at hl) _ ha
  exact ⟨b, o, ha, Nat.lt_of_lt_of_le hb k.size, fun i x hx => ⟨(k.cell (p := ⟨b, o + i * 2, none⟩) hb hne).trans (hc i x hx).1, (k.cell (p := ⟨b, o + i * 2 + 1, none⟩) hb hne).trans (hc i x hx).2⟩⟩
theorem rec_but {α : Type} {sz : Nat} {f : α → List Value} {n : Nat} {w w' : World} (k : Hold.But n w w') {a : Option Addr} {l : List α} (h : RecR sz f w a l) (hn : l.length ≠ 0 → ∀ q, a = some q → q.block ≠ n) : RecR sz f w' a l := fun hl => by
  obtain ⟨b, o, ha, hb, hc⟩ := h hl
  have hne : b ≠ n := hn hl _ ha
  exact ⟨b, o, ha, Nat.lt_of_lt_of_le hb k.size, fun i x hx j u hu => (k.cell (p := ⟨b, o + i * sz + j, none⟩) hb hne).trans (hc i x hx j u hu)⟩
/-- A book as it lies in memory; its lists lie in blocks of which A says so. -/
structure BkR (w : World) (b : Bk) (v : List Value) (A : Nat → Prop) : Prop where
  len : v.length = 11
  one : Hold.Single v
  at0 : v[0]? = some (.bool b.ideal)
  at1 : v[1]? = some (.string (tx b.seed))
  at2 : v[2]? = some (.int .i64 2)
  at3 : v[3]? = some (.int .i64 1)
  at4 : Lies CelRb A w v[4]? b.cells
  at5 : Lies CelRb A w v[5]? b.used
  at6 : Lies CntR A w v[6]? b.counts
  at7 : Lies IssR A w v[7]? b.issued
  at8 : Lies IssR A w v[8]? b.taken
  at9 : Lies IssR A w v[9]? b.forged
  at10 : Lies IssR A w v[10]? b.missed
  names : ∀ c ∈ b.used, c.1.length ≤ 1000000
theorem Lies.to {α : Type} {R : World → Option Addr → List α → Prop} {A A' : Nat → Prop} {w w' : World} {u : Option Value} {l : List α} (h : Lies R A w u l) (hR : ∀ a, R w a l → (l.length ≠ 0 → ∀ q, a = some q → A q.block) → R w' a l) (hA : ∀ a, R w a l → l.length ≠ 0 → ∀ q, a = some q → A q.block → A' q.block) : Lies R A' w' u l := by
  obtain ⟨a, n, c, h1, h2, h3, h4, h5⟩ := h
  exact ⟨a, n, c, h1, h2, h3, hR a h4 h5, fun hl q hq => hA a h4 hl q hq (h5 hl q hq)⟩
theorem BkR.below {w w' : World} {b : Bk} {v : List Value} {A : Nat → Prop} (h : BkR w b v A) (k : Below w.heap.size w w') : BkR w' b v A :=
  ⟨h.len, h.one, h.at0, h.at1, h.at2, h.at3, h.at4.to (fun _ x _ => CelR.below x k) (fun _ _ _ _ _ x => x), h.at5.to (fun _ x _ => CelR.below x k) (fun _ _ _ _ _ x => x), h.at6.to (fun _ x _ => RecR.below x k) (fun _ _ _ _ _ x => x), h.at7.to (fun _ x _ => RecR.below x k) (fun _ _ _ _ _ x => x), h.at8.to (fun _ x _ => RecR.below x k) (fun _ _ _ _ _ x => x), h.at9.to (fun _ x _ => RecR.below x k) (fun _ _ _ _ _ x => x), h.at10.to (fun _ x _ => RecR.below x k) (fun _ _ _ _ _ x => x), h.names⟩
/-- Where lists lie may be told otherwise; each lies in a block that is there. -/
theorem BkR.mono {w : World} {b : Bk} {v : List Value} {A A' : Nat → Prop} (h : BkR w b v A) (hA : ∀ k, k < w.heap.size → A k → A' k) : BkR w b v A' :=
  ⟨h.len, h.one, h.at0, h.at1, h.at2, h.at3, h.at4.to (fun _ x _ => x) (fun _ x hl q hq y => hA _ (celRb_low x hl q hq) y), h.at5.to (fun _ x _ => x) (fun _ x hl q hq y => hA _ (celRb_low x hl q hq) y), h.at6.to (fun _ x _ => x) (fun _ x hl q hq y => hA _ (rec_low x hl q hq) y), h.at7.to (fun _ x _ => x) (fun _ x hl q hq y => hA _ (rec_low x hl q hq) y), h.at8.to (fun _ x _ => x) (fun _ x hl q hq y => hA _ (rec_low x hl q hq) y), h.at9.to (fun _ x _ => x) (fun _ x hl q hq y => hA _ (rec_low x hl q hq) y), h.at10.to (fun _ x _ => x) (fun _ x hl q hq y => hA _ (rec_low x hl q hq) y), h.names⟩
/-- A store into a block in which no list lies. -/
theorem BkR.but {w w' : World} {b : Bk} {v : List Value} {A : Nat → Prop} {n : Nat} (h : BkR w b v A) (k : Hold.But n w w') (hA : ∀ k, A k → k ≠ n) : BkR w' b v A :=
  ⟨h.len, h.one, h.at0, h.at1, h.at2, h.at3, h.at4.to (fun _ x y => celRb_but k x fun hl q hq => hA _ (y hl q hq)) (fun _ _ _ _ _ x => x), h.at5.to (fun _ x y => celRb_but k x fun hl q hq => hA _ (y hl q hq)) (fun _ _ _ _ _ x => x), h.at6.to (fun _ x y => rec_but k x fun hl q hq => hA _ (y hl q hq)) (fun _ _ _ _ _ x => x), h.at7.to (fun _ x y => rec_but k x fun hl q hq => hA _ (y hl q hq)) (fun _ _ _ _ _ x => x), h.at8.to (fun _ x y => rec_but k x fun hl q hq => hA _ (y hl q hq)) (fun _ _ _ _ _ x => x), h.at9.to (fun _ x y => rec_but k x fun hl q hq => hA _ (y hl q hq)) (fun _ _ _ _ _ x => x), h.at10.to (fun _ x y => rec_but k x fun hl q hq => hA _ (y hl q hq)) (fun _ _ _ _ _ x => x), h.names⟩
/-- Blocks that are held hold none of its lists. -/
def Off (m : List Hold.Blk) (k : Nat) : Prop := ∀ x ∈ m, x.n ≠ k
theorem off_snoc {m : List Hold.Blk} {x : Hold.Blk} {k : Nat} (h : Off m k) (hx : x.n ≠ k) : Off (m ++ [x]) k := fun y hy => by
  rcases List.mem_append.1 hy with hy | hy
  · exact h y hy
  · obtain rfl := List.mem_singleton.1 hy
    exact hx
/-- What a call answers lies in none of the blocks that are held. -/
theorem BkR.answered {w0 w w' : World} {m : List Hold.Blk} {b : Bk} {v : List Value} (h : BkR w' b v (fun k => Off m k ∨ w.heap.size ≤ k)) (hm : Hold.Hld w0 m w) : BkR w' b v (Off m) :=
  h.mono fun k _ hk => hk.elim id fun h1 x hx e => by
    have := (hm.whole x hx).lt
    omega
/-- A new block is none in which a list lies. -/
theorem BkR.alloc {w w' : World} {m : List Hold.Blk} {b : Bk} {v : List Value} {n : Nat} {t : TypeId} {z : List Value} (h : BkR w b v (Off m)) (hn : w.heap.size ≤ n) (k : Below w.heap.size w w') : BkR w' b v (Off (m ++ [⟨n, t, z⟩])) :=
  (h.mono (A' := Off (m ++ [⟨n, t, z⟩])) fun k hk ho => off_snoc ho (by show n ≠ k; omega)).below k
/-- A store into a block that is held. -/
theorem BkR.stored {w w' : World} {m : List Hold.Blk} {b : Bk} {v : List Value} {n i : Nat} {t : TypeId} {z z' : List Value} (h : BkR w b v (Off m)) (hi : m[i]? = some ⟨n, t, z⟩) (k : Hold.But n w w') : BkR w' b v (Off (m.set i ⟨n, t, z'⟩)) := by
  have h2 := h.but k fun j hj => fun e => hj _ (List.mem_of_getElem? hi) e.symm
  refine h2.mono fun j _ hj x hx => ?_
  rcases List.mem_or_eq_of_mem_set hx with hx | rfl
  · exact hj x hx
  · exact hj ⟨n, t, z⟩ (List.mem_of_getElem? hi)
def zeroBk : List Value := [.bool false, .string ⟨#[]⟩, .int .i64 0, .int .i64 0, .slice none 0 0, .slice none 0 0, .slice none 0 0, .slice none 0 0, .slice none 0 0, .slice none 0 0, .slice none 0 0]
theorem zero_len : zeroBk.length = 11 := rfl
theorem zero_bk : (Tryz.prog.info? 30).map (fun i => (i.zero, i.size)) = some (some (.agg zeroBk.toArray), zeroBk.length) := by kernel_rfl
theorem bkRow : Hold.TyRow Tryz.prog 30 11 := ⟨_, Tryz.underlying30, rfl, by kernel_rfl⟩
theorem bkRowOf {v : List Value} (h : v.length = 11) : Hold.TyRow Tryz.prog 30 v.length := by rw [h]; exact bkRow
theorem bkFits {v z : List Value} (h : v.length = 11) (k : z.length = 11) : 0 + v.length ≤ z.length := by omega
theorem bkLaid {v z : List Value} (h : v.length = 11) (k : z.length = 11) : Hold.lay z 0 v = v := Hold.lay_all (k.trans h.symm)
theorem cellI : Hold.TyCell Tryz.prog 28 := ⟨_, Tryz.underlying28, rfl, by kernel_rfl⟩
theorem cellC : Hold.TyCell Tryz.prog 22 := ⟨_, Tryz.underlying22, rfl, by kernel_rfl⟩

theorem eleven {v : List Value} (h : v.length = 11) : ∃ a b c d e f g i j k l, v = [a, b, c, d, e, f, g, i, j, k, l] := by
  match v, h with
  | [a, b, c, d, e, f, g, i, j, k, l], _ => exact ⟨a, b, c, d, e, f, g, i, j, k, l, rfl⟩
/-- The field Cells of a book that is no variable. -/
theorem fieldC {v : List Value} (h : v.length = 11) {x : Value} (hx : v[4]? = some x) (u : World) : (Instr.field 30 (.agg v.toArray) 3).run Tryz.prog u = .ok x u := by
  obtain ⟨a, b, c, d, e, f, g, i, j, k, l, rfl⟩ := eleven h
  obtain rfl : e = x := Option.some.inj hx
  kernel_rfl
/-- A list of numbers that lies in none of the blocks that are held. -/
structure Num (w : World) (a : Option Addr) (l : List Nat) (m : List Hold.Blk) : Prop where
  read : NumR w a l
  off : l.length ≠ 0 → ∀ q, a = some q → Off m q.block
theorem Num.below {w w' : World} {a : Option Addr} {l : List Nat} {m : List Hold.Blk} (h : Num w a l m) (k : Below w.heap.size w w') : Num w' a l m := ⟨h.read.below k, h.off⟩
theorem Num.alloc {w w' : World} {a : Option Addr} {l : List Nat} {m : List Hold.Blk} {n : Nat} {t : TypeId} {z : List Value} (h : Num w a l m) (hn : w.heap.size ≤ n) (k : Below w.heap.size w w') : Num w' a l (m ++ [⟨n, t, z⟩]) :=
  ⟨h.read.below k, fun hl q hq => off_snoc (h.off hl q hq) (by have := rec_low h.read hl q hq; show n ≠ q.block; omega)⟩
theorem Num.stored {w w' : World} {a : Option Addr} {l : List Nat} {m : List Hold.Blk} {n i : Nat} {t : TypeId} {z z' : List Value} (h : Num w a l m) (hi : m[i]? = some ⟨n, t, z⟩) (k : Hold.But n w w') : Num w' a l (m.set i ⟨n, t, z'⟩) :=
  ⟨rec_but k h.read fun hl q hq e => h.off hl q hq _ (List.mem_of_getElem? hi) e.symm, fun hl q hq x hx => by
    rcases List.mem_or_eq_of_mem_set hx with hx | rfl
    · exact h.off hl q hq x hx
    · exact h.off hl q hq ⟨n, t, z⟩ (List.mem_of_getElem? hi)⟩
theorem num_answered {w0 w w' : World} {m : List Hold.Blk} {a : Option Addr} {l : List Nat} (h : NumR w' a l) (hn : l.length ≠ 0 → ∀ q, a = some q → w.heap.size ≤ q.block) (hm : Hold.Hld w0 m w) : Num w' a l m :=
  ⟨h, fun hl q hq x hx e => by
    have := (hm.whole x hx).lt
    have := hn hl q hq
    omega⟩

/-- The listed tables lie in their variables. -/
structure Laid (w : World) : Prop where
  consts : Sha.Consts w
  pow : Tape.Pow w
theorem Laid.below {w w' : World} (h : Laid w) (k : Below w.heap.size w w') : Laid w' := ⟨h.consts.below h.consts.1 k, h.pow.below k⟩

/-- How many of each a book may have. -/
structure Room (b : Bk) (m : Nat) : Prop where
  seed : b.seed.length ≤ 1000
  cells : b.cells.length ≤ m
  used : b.used.length ≤ m
  counts : b.counts.length ≤ m
  issued : b.issued.length ≤ m
  taken : b.taken.length ≤ m
  forged : b.forged.length ≤ m
  missed : b.missed.length ≤ m
theorem Room.more {b : Bk} {m n : Nat} (h : Room b m) (hn : m ≤ n) : Room b n :=
  ⟨h.seed, Nat.le_trans h.cells hn, Nat.le_trans h.used hn, Nat.le_trans h.counts hn, Nat.le_trans h.issued hn, Nat.le_trans h.taken hn, Nat.le_trans h.forged hn, Nat.le_trans h.missed hn⟩
theorem putF_length (n s : List UInt8) (d : Bool) (l : List C) : (putF n s d l).length ≤ l.length + 1 := by
  have h3 : ∀ d l, d = true → (putF n s d l).length ≤ l.length := by
    intro d l
    induction l generalizing d with
    | nil => intro h; subst h; simp [putF]
    | cons c l ih =>
      intro h
      subst h
      have := ih true rfl
      rw [RTap.putF_cons]
      split
      · rw [if_pos rfl, List.length_cons]; omega
      · rw [List.length_cons, List.length_cons]; omega
  induction l generalizing d with
  | nil => cases d <;> simp [putF]
  | cons c l ih =>
    have h1 := ih d
    rw [RTap.putF_cons]
    split
    · split
      · have := h3 true l rfl
        rw [List.length_cons]; omega
      · have := h3 true l rfl
        rw [List.length_cons, List.length_cons]
        omega
    · rw [List.length_cons, List.length_cons]
      omega
theorem put_length (l : List C) (n s : List UInt8) : (put l n s).length ≤ l.length + 1 := putF_length n s false l
theorem counted_length (l : List (List UInt8 × Nat)) (who : List UInt8) : (counted l who).length ≤ l.length + 1 := by
  induction l with
  | nil => simp [counted]
  | cons c l ih =>
    rw [counted]
    split
    · simp
    · rw [List.length_cons, List.length_cons]; omega
theorem Room.new (ideal : Bool) (seed : List UInt8) (l : List C) (m : Nat) (hs : seed.length ≤ 1000) (hl : l.length ≤ m) : Room (newB ideal seed l) m := by
  refine ⟨hs, ?_, Nat.zero_le _, Nat.zero_le _, Nat.zero_le _, Nat.zero_le _, Nat.zero_le _, Nat.zero_le _⟩
  show (if ideal = true then l else []).length ≤ m
  split
  · exact hl
  · exact Nat.zero_le _
theorem Room.cell {b : Bk} {m : Nat} (h : Room b m) (name : List UInt8) (n : Int) : Room (cellB b name n) (m + 1) := by
  unfold cellB
  split
  · exact h.more (Nat.le_succ m)
  · have h2 := h.more (Nat.le_succ m)
    exact ⟨h2.seed, h2.cells, Nat.le_trans (put_length _ _ _) (Nat.succ_le_succ h.used), h2.counts, h2.issued, h2.taken, h2.forged, h2.missed⟩
theorem Room.sign {b : Bk} {m : Nat} (h : Room b m) (who msg : List UInt8) : Room (signB b who msg) (m + 1) := by
  have h2 : Room (usedB b who msg) (m + 1) := by
    unfold usedB
    split
    · exact h.cell _ _
    · have h2 := h.more (Nat.le_succ m)
      exact ⟨h2.seed, h2.cells, Nat.le_trans (put_length _ _ _) (Nat.succ_le_succ h.used), h2.counts, h2.issued, h2.taken, h2.forged, h2.missed⟩
  exact ⟨h2.seed, h2.cells, h2.used, Nat.le_trans (counted_length _ _) (Nat.succ_le_succ h.counts), Nat.le_trans (add_length _ _) (Nat.succ_le_succ h.issued), h2.taken, h2.forged, h2.missed⟩
theorem Room.check {b : Bk} {m : Nat} (h : Room b m) (who msg sig : List UInt8) : Room (checkB b who msg sig) (m + 1) := by
  have h2 : ∀ (c : Bk) (x : Iss) (ok : Bool), Room c (m + 1) → c.taken.length ≤ m → c.forged.length ≤ m → c.missed.length ≤ m → Room (told c x ok) (m + 1) := fun c x ok hc h1 h2 h3 => by
    refine ⟨hc.seed, hc.cells, hc.used, hc.counts, hc.issued, ?_, ?_, ?_⟩
    · show (if ok = true then add c.taken x else c.taken).length ≤ _
      split
      · exact Nat.le_trans (add_length _ _) (Nat.succ_le_succ h1)
      · omega
    · show (if ok = true ∧ x ∉ c.issued then add c.forged x else c.forged).length ≤ _
      split
      · exact Nat.le_trans (add_length _ _) (Nat.succ_le_succ h2)
      · omega
    · show (if ok = true then c.missed else add c.missed x).length ≤ _
      split
      · omega
      · exact Nat.le_trans (add_length _ _) (Nat.succ_le_succ h3)
  unfold checkB
  split
  · exact h2 _ _ _ (h.more (Nat.le_succ m)) h.taken h.forged h.missed
  · have h3 := h.more (Nat.le_succ m)
    exact h2 _ _ _ ⟨h3.seed, Nat.le_trans (put_length _ _ _) (Nat.succ_le_succ h.cells), h3.used, h3.counts, h3.issued, h3.taken, h3.forged, h3.missed⟩ h.taken h.forged h.missed

/-- What Sign answers, where signatures are left and where none are. -/
def signO (b : Bk) (who msg : List UInt8) : List UInt8 × Bk × Int := if 2 ≤ count b.counts who then ([], b, 6) else (signS b who msg, signB b who msg, 0)

set_option maxHeartbeats 800000 in
theorem shape_any (w : World) : Calls Tryz.prog 8 #[] w fun e w' => e = .returned (.agg #[.int .i64 2, .int .i64 1]) ∧ Below w.heap.size w w' := by
  have hb : Tryz.prog.built 26 [(0, .int .i64 2), (1, .int .i64 1)] = some #[.int .i64 2, .int .i64 1] := by kernel_rfl
  have HM := Lib.hid (Hold.Hld.start w)
  go_enter Tryz.func8, Tryz.ntmps8
  go_wp2_with ((first
    | (with_reducible refine Hold.alloc HM.out rfl rfl [.int .i64 0, .int .i64 0] (by kernel_rfl) ?_; clear HM; intro b w HM; simp only [List.nil_append] at HM; replace HM := Lib.hid HM)
    | (refine Hold.store HM.out 0 (cs := [.int .i64 2, .int .i64 1]) (v' := [.int .i64 2, .int .i64 1]) rfl rfl rfl rfl rfl (by simp) (Hold.lay_all rfl) (by unfold Hold.Single; simp [Value.oneCell']) ⟨_, Tryz.underlying26, rfl, by kernel_rfl⟩ ?_; clear HM; intro w HM; simp only [List.set_cons_zero] at HM; replace HM := Lib.hid HM)))
  refine bodyPost_ret (Hold.results1 HM.out 0 rfl _ rfl rfl ⟨_, Tryz.underlying26, rfl, by kernel_rfl⟩) rfl ?_
  exact ⟨rfl, HM.out.below⟩
end Go.Proofs.YtdhipdoaefdfeaaGreatDoor.Bkr
