/-
  The plain mathematics of package letter: what letters say, as bytes, and what bytes say, as each kind: what is laid is read, as its kind; what is read is laid so; how long it is. Upon XCod: nothing here speaks of a program.
-/
import Derived.Test.YtlinpbmglcjkkaaDoorCod
namespace Go.Proofs.YtlinpbmglcjkkaaDoor.Let
open Go.RowKit Mur Prt Lanes Cod
open Ros (glue glue_error glue_ok glue_parts ints ints_length lay_ints num_nat each_nat)

/-- What letters say. -/
inductive V where
  | cast (b : List UInt8)
  | list (who : List Int) (clock : Int)
  | pledge (d : List UInt8)
  | share (b : List UInt8) (m : List (List UInt8))
  | cert (out : List UInt8) (who : List Int) (clock : Int)
  | out (m : List (List UInt8))
def kind : V → Nat
  | .cast _ => 1
  | .list _ _ => 2
  | .pledge _ => 3
  | .share _ _ => 4
  | .cert _ _ _ => 5
  | .out _ => 6
def layList (who : List Int) (clock : Int) : Except Nat (List UInt8) := glue (layAll num who) (num clock)
def layPledge (d : List UInt8) : Except Nat (List UInt8) := if d.length = 32 then .ok d else .error 1
def layShare (b : List UInt8) (m : List (List UInt8)) : Except Nat (List UInt8) := glue (str b) (layAll str m)
def layCert (o : List UInt8) (who : List Int) (clock : Int) : Except Nat (List UInt8) := glue (glue (str o) (layAll num who)) (num clock)
def layOut (m : List (List UInt8)) : Except Nat (List UInt8) := layAll str m
def lay : V → Except Nat (List UInt8)
  | .cast b => str b
  | .list who clock => layList who clock
  | .pledge d => layPledge d
  | .share b m => layShare b m
  | .cert o who clock => layCert o who clock
  | .out m => layOut m

def readCast (s : List UInt8) : Except Nat (List UInt8) := whole readStr s
def readList (s : List UInt8) : Except Nat (List Nat × Nat) := whole (readP (readAll readNum) readNum) s
def readPledge (s : List UInt8) : Except Nat (List UInt8) := if s.length = 32 then .ok s else .error 3
def readShare (s : List UInt8) : Except Nat (List UInt8 × List (List UInt8)) := whole (readP readStr (readAll readStr)) s
def readCert (s : List UInt8) : Except Nat ((List UInt8 × List Nat) × Nat) := whole (readP (readP readStr (readAll readNum)) readNum) s
def readOut (s : List UInt8) : Except Nat (List (List UInt8)) := whole (readAll readStr) s

theorem ints_of (l : List Int) (a : List UInt8) (h : layAll num l = .ok a) : ∃ ns, l = ints ns := by
  unfold layAll at h
  split at h
  · cases h
  · cases hl : each num l with
    | error e => rw [hl] at h; cases h
    | ok c => exact each_nat l c hl
theorem int_of (z : Int) (a : List UInt8) (h : num z = .ok a) : ∃ n : Nat, z = (n : Int) := by
  have := num_nat z a h
  exact ⟨z.toNat, by omega⟩

theorem cast_read (b s : List UInt8) (h : str b = .ok s) : readCast s = .ok b := whole_read strC b s h
theorem cast_laid (b s : List UInt8) (h : readCast s = .ok b) : str b = .ok s := whole_laid strC b s h
theorem out_read (m : List (List UInt8)) (s : List UInt8) (h : layOut m = .ok s) : readOut s = .ok m := whole_read (listC strC) m s h
theorem out_laid (m : List (List UInt8)) (s : List UInt8) (h : readOut s = .ok m) : layOut m = .ok s := whole_laid (listC strC) m s h
theorem share_read (b : List UInt8) (m : List (List UInt8)) (s : List UInt8) (h : layShare b m = .ok s) : readShare s = .ok (b, m) := whole_read (pairC strC (listC strC)) (b, m) s h
theorem share_laid (b : List UInt8) (m : List (List UInt8)) (s : List UInt8) (h : readShare s = .ok (b, m)) : layShare b m = .ok s := whole_laid (pairC strC (listC strC)) (b, m) s h
theorem pledge_read (d s : List UInt8) (h : layPledge d = .ok s) : readPledge s = .ok d := by
  unfold layPledge at h
  split at h
  · cases h
    rw [readPledge, if_pos (by assumption)]
  · cases h
theorem pledge_laid (d s : List UInt8) (h : readPledge s = .ok d) : layPledge d = .ok s := by
  unfold readPledge at h
  split at h
  · cases h
    rw [layPledge, if_pos (by assumption)]
  · cases h
theorem layP_list (ns : List Nat) (n : Nat) : layP (layAll fun k : Nat => num (k : Int)) (fun k : Nat => num (k : Int)) (ns, n) = layList (ints ns) (n : Int) := by rw [layList, lay_ints]; rfl
theorem list_read (who : List Int) (clock : Int) (s : List UInt8) (h : layList who clock = .ok s) : ∃ ns n, who = ints ns ∧ clock = ((n : Nat) : Int) ∧ readList s = .ok (ns, n) := by
  obtain ⟨a, b, h1, h2, -⟩ := glue_parts _ _ _ h
  obtain ⟨ns, rfl⟩ := ints_of who a h1
  obtain ⟨n, rfl⟩ := int_of clock b h2
  rw [← layP_list] at h
  exact ⟨ns, n, rfl, rfl, whole_read (pairC (listC natC) natC) (ns, n) s h⟩
theorem list_laid (ns : List Nat) (n : Nat) (s : List UInt8) (h : readList s = .ok (ns, n)) : layList (ints ns) (n : Int) = .ok s := by
  rw [← layP_list]
  exact whole_laid (pairC (listC natC) natC) (ns, n) s h
theorem layP_cert (o : List UInt8) (ns : List Nat) (n : Nat) : layP (layP str (layAll fun k : Nat => num (k : Int))) (fun k : Nat => num (k : Int)) ((o, ns), n) = layCert o (ints ns) (n : Int) := by rw [layCert, lay_ints]; rfl
theorem cert_read (o : List UInt8) (who : List Int) (clock : Int) (s : List UInt8) (h : layCert o who clock = .ok s) : ∃ ns n, who = ints ns ∧ clock = ((n : Nat) : Int) ∧ readCert s = .ok ((o, ns), n) := by
  obtain ⟨a, b, h1, h2, -⟩ := glue_parts _ _ _ h
  obtain ⟨c, d, -, h3, -⟩ := glue_parts _ _ _ h1
  obtain ⟨ns, rfl⟩ := ints_of who d h3
  obtain ⟨n, rfl⟩ := int_of clock b h2
  rw [← layP_cert] at h
  exact ⟨ns, n, rfl, rfl, whole_read (pairC (pairC strC (listC natC)) natC) ((o, ns), n) s h⟩
theorem cert_laid (o : List UInt8) (ns : List Nat) (n : Nat) (s : List UInt8) (h : readCert s = .ok ((o, ns), n)) : layCert o (ints ns) (n : Int) = .ok s := by
  rw [← layP_cert]
  exact whole_laid (pairC (pairC strC (listC natC)) natC) ((o, ns), n) s h

/-- What is read, as a kind. -/
def mapE {α β : Type} (f : α → β) (r : Except Nat α) : Except Nat β := match r with
  | .error e => .error e
  | .ok x => .ok (f x)
theorem mapE_ok {α β : Type} (f : α → β) (r : Except Nat α) (y : β) (h : mapE f r = .ok y) : ∃ x, r = .ok x ∧ y = f x := by
  cases r with
  | error e => cases h
  | ok x => cases h; exact ⟨x, rfl, rfl⟩
def read (k : Nat) (s : List UInt8) : Except Nat V := match k with
  | 1 => mapE V.cast (readCast s)
  | 2 => mapE (fun x => V.list (ints x.1) (x.2 : Nat)) (readList s)
  | 3 => mapE V.pledge (readPledge s)
  | 4 => mapE (fun x => V.share x.1 x.2) (readShare s)
  | 5 => mapE (fun x => V.cert x.1.1 (ints x.1.2) (x.2 : Nat)) (readCert s)
  | 6 => mapE V.out (readOut s)
  | _ => .error 1
theorem read_laid (k : Nat) (s : List UInt8) (v : V) (h : read k s = .ok v) : kind v = k ∧ lay v = .ok s := by
  match k, h with
  | 1, h => obtain ⟨x, h1, rfl⟩ := mapE_ok _ _ _ h; exact ⟨rfl, cast_laid _ _ h1⟩
  | 2, h => obtain ⟨⟨x, n⟩, h1, rfl⟩ := mapE_ok _ _ _ h; exact ⟨rfl, list_laid _ _ _ h1⟩
  | 3, h => obtain ⟨x, h1, rfl⟩ := mapE_ok _ _ _ h; exact ⟨rfl, pledge_laid _ _ h1⟩
  | 4, h => obtain ⟨⟨x, m⟩, h1, rfl⟩ := mapE_ok _ _ _ h; exact ⟨rfl, share_laid _ _ _ h1⟩
  | 5, h => obtain ⟨⟨⟨x, m⟩, n⟩, h1, rfl⟩ := mapE_ok _ _ _ h; exact ⟨rfl, cert_laid _ _ _ _ h1⟩
  | 6, h => obtain ⟨x, h1, rfl⟩ := mapE_ok _ _ _ h; exact ⟨rfl, out_laid _ _ h1⟩
  | 0, h => cases h
  | _ + 7, h => cases h

/-- How long what is laid is. -/
def texts (m : List (List UInt8)) : Nat := (m.map fun s => 2 + s.length).sum
def long : V → Nat
  | .cast b => 2 + b.length
  | .list who _ => 6 + 5 * who.length
  | .pledge d => d.length
  | .share b m => 3 + b.length + texts m
  | .cert o who _ => 8 + o.length + 5 * who.length
  | .out m => 1 + texts m
theorem fives (l : List Int) : (l.map fun _ => 5).sum = 5 * l.length := by
  induction l with
  | nil => rfl
  | cons x l ih => rw [List.map_cons, List.sum_cons, ih, List.length_cons]; omega
theorem nums_long (l : List Int) (a : List UInt8) (h : layAll num l = .ok a) : a.length = 1 + 5 * l.length := by
  rw [(all_long num (fun _ => 5) num_length l a h).1, fives]
theorem strs_long (m : List (List UInt8)) (a : List UInt8) (h : layAll str m = .ok a) : a.length = 1 + texts m := (all_long str (fun s => 2 + s.length) str_long m a h).1
theorem lay_long (v : V) (s : List UInt8) (h : lay v = .ok s) : s.length = long v := by
  match v, h with
  | .cast b, h => exact str_long b s h
  | .list who clock, h =>
    obtain ⟨a, b, h1, h2, rfl⟩ := glue_parts _ _ _ h
    rw [List.length_append, nums_long _ _ h1, num_length _ _ h2]
    show _ = 6 + 5 * who.length
    omega
  | .pledge d, h =>
    have h : layPledge d = .ok s := h
    unfold layPledge at h
    split at h
    · cases h; rfl
    · cases h
  | .share b m, h =>
    obtain ⟨x, y, h1, h2, rfl⟩ := glue_parts _ _ _ h
    rw [List.length_append, str_long _ _ h1, strs_long _ _ h2]
    show _ = 3 + b.length + texts m
    omega
  | .cert o who clock, h =>
    obtain ⟨x, y, h1, h2, rfl⟩ := glue_parts _ _ _ h
    obtain ⟨c, d, h3, h4, rfl⟩ := glue_parts _ _ _ h1
    rw [List.length_append, List.length_append, str_long _ _ h3, nums_long _ _ h4, num_length _ _ h2]
    show _ = 8 + o.length + 5 * who.length
    omega
  | .out m, h => exact strs_long m s h
/-- The errors. -/
theorem lay_errs (v : V) (e : Nat) (h : lay v = .error e) : 1 ≤ e ∧ e ≤ 4 := by
  have g : ∀ (x y : Except Nat (List UInt8)) (e : Nat), (∀ e, x = .error e → 1 ≤ e ∧ e ≤ 4) → (∀ e, y = .error e → 1 ≤ e ∧ e ≤ 4) → glue x y = .error e → 1 ≤ e ∧ e ≤ 4 := by
    intro x y e hx hy k
    cases x with
    | error a => cases k; exact hx _ rfl
    | ok a => cases y with
      | error b => cases k; exact hy _ rfl
      | ok b => cases k
  match v, h with
  | .cast b, h => exact str_err b e h
  | .list who clock, h => exact g _ _ e (all_errs num num_err who) (num_err clock) h
  | .pledge d, h =>
    have h : layPledge d = .error e := h
    unfold layPledge at h
    split at h
    · cases h
    · cases h; omega
  | .share b m, h => exact g _ _ e (str_err b) (all_errs str str_err m) h
  | .cert o who clock, h => exact g _ _ e (fun e k => g _ _ e (str_err o) (all_errs num num_err who) k) (num_err clock) h
  | .out m, h => exact all_errs str str_err m e h
theorem readStr_errs (s : List UInt8) (p : Int) (e : Nat) (h : readStr s p = .error e) : 1 ≤ e ∧ e ≤ 4 := readStr_err s p e h
theorem readCast_errs (s : List UInt8) (e : Nat) (h : readCast s = .error e) : 1 ≤ e ∧ e ≤ 4 := ends_errs s _ (fun e k => readStr_err s 0 e k) e h
theorem readList_errs (s : List UInt8) (e : Nat) (h : readList s = .error e) : 1 ≤ e ∧ e ≤ 4 := ends_errs s _ (fun e k => readP_errs _ _ (readAll_errs _ readNum_errs) readNum_errs s 0 e k) e h
theorem readPledge_errs (s : List UInt8) (e : Nat) (h : readPledge s = .error e) : e = 3 := by
  unfold readPledge at h
  split at h
  · cases h
  · cases h; rfl
theorem readShare_errs (s : List UInt8) (e : Nat) (h : readShare s = .error e) : 1 ≤ e ∧ e ≤ 4 := ends_errs s _ (fun e k => readP_errs _ _ readStr_errs (readAll_errs _ readStr_errs) s 0 e k) e h
theorem readCert_errs (s : List UInt8) (e : Nat) (h : readCert s = .error e) : 1 ≤ e ∧ e ≤ 4 := ends_errs s _ (fun e k => readP_errs _ _ (readP_errs _ _ readStr_errs (readAll_errs _ readNum_errs)) readNum_errs s 0 e k) e h
theorem readOut_errs (s : List UInt8) (e : Nat) (h : readOut s = .error e) : 1 ≤ e ∧ e ≤ 4 := ends_errs s _ (fun e k => readAll_errs _ readStr_errs s 0 e k) e h
end Go.Proofs.YtlinpbmglcjkkaaDoor.Let
