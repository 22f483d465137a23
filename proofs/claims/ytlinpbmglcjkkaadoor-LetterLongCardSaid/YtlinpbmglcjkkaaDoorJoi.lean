/-
  Parts of a text one behind the other, or the first error, as package letter joins them (of, joined): what is answered of any few parts, and that all memory that was there is left as it was. Conditions: no part is longer than 10^12; no more than 8 parts.
-/
import Derived.Test.YtlinpbmglcjkkaaDoorRLetA
import Derived.Deep.Cut
import Derived.BigQuiet
namespace Go.Proofs.YtlinpbmglcjkkaaDoor.Joi
open Go.RowKit Mur Prt Lanes Cod Let
open Ros (glue glue_error glue_ok)
open RLet (cellInt cellStr cellInts cellStrs)
set_option maxRecDepth 100000

theorem belowN {B : Nat} {a w : World} (h : Below B a w) (n : Nat) : Below B a (w.drewN n) := ⟨h.os, h.tape, h.output, h.size, h.block⟩
/-- Parts one behind the other, or the first error. -/
def go : ByteArray → List (ByteArray × Int) → ByteArray × Int
  | out, [] => (out, 0)
  | out, p :: t => if p.2 = 0 then go (out ++ p.1) t else (⟨#[]⟩, p.2)
theorem empty_append (a : ByteArray) : (⟨#[]⟩ : ByteArray) ++ a = a := by
  cases a with
  | mk d => exact congrArg ByteArray.mk (by simp)
theorem go_err (out : ByteArray) (p : ByteArray × Int) (t : List (ByteArray × Int)) (h : p.2 ≠ 0) : go out (p :: t) = (⟨#[]⟩, p.2) := by rw [go, if_neg h]
theorem go_ok (out : ByteArray) (p : ByteArray × Int) (t : List (ByteArray × Int)) (h : p.2 = 0) : go out (p :: t) = go (out ++ p.1) t := by rw [go, if_pos h]
/-- What a part says. -/
def said (r : Except Nat (List UInt8)) : ByteArray × Int := (layX r, errV r)
theorem said_err (e : Nat) (h : 1 ≤ e ∧ e ≤ 4) : (said (.error e)).2 ≠ 0 := show (e : Int) ≠ 0 by omega
/-- Two parts, and three, are glued so. -/
theorem go_two (r q : Except Nat (List UInt8)) (h1 : ∀ e, r = .error e → 1 ≤ e ∧ e ≤ 4) (h2 : ∀ e, q = .error e → 1 ≤ e ∧ e ≤ 4) : go ⟨#[]⟩ [said r, said q] = said (glue r q) := by
  cases r with
  | error e => exact go_err _ _ _ (said_err e (h1 e rfl))
  | ok a =>
    rw [go_ok _ _ _ rfl]
    cases q with
    | error e => exact go_err _ _ _ (said_err e (h2 e rfl))
    | ok b =>
      rw [go_ok _ _ _ rfl, go, empty_append]
      exact congrArg (fun x => (x, (0 : Int))) (tx_append a b)
theorem go_three (r q s : Except Nat (List UInt8)) (h1 : ∀ e, r = .error e → 1 ≤ e ∧ e ≤ 4) (h2 : ∀ e, q = .error e → 1 ≤ e ∧ e ≤ 4) (h3 : ∀ e, s = .error e → 1 ≤ e ∧ e ≤ 4) :
    go ⟨#[]⟩ [said r, said q, said s] = said (glue (glue r q) s) := by
  cases r with
  | error e => exact go_err _ _ _ (said_err e (h1 e rfl))
  | ok a =>
    rw [go_ok _ _ _ rfl, empty_append]
    cases q with
    | error e => exact go_err _ _ _ (said_err e (h2 e rfl))
    | ok b =>
      rw [go_ok _ _ _ rfl, show (said (.ok a)).1 ++ (said (.ok b)).1 = tx (a ++ b) from tx_append a b]
      cases s with
      | error e => exact go_err _ _ _ (said_err e (h3 e rfl))
      | ok c =>
        rw [go_ok _ _ _ rfl, go]
        exact congrArg (fun x => (x, (0 : Int))) (tx_append (a ++ b) c)

def zLaid : List Value := [.string ⟨#[]⟩, .int .i64 0]
theorem zLaid_len : zLaid.length = 2 := rfl
theorem zero_zLaid : (Tryd.prog.info? 98).map (fun i => (i.zero, i.size)) = some (some (.agg zLaid.toArray), zLaid.length) := by kernel_rfl
theorem row_zLaid : Hold.TyRow Tryd.prog 98 2 := ⟨_, Tryd.underlying98, rfl, by kernel_rfl⟩

set_option maxHeartbeats 800000 in
theorem of_any (A : ByteArray) (E : Int) (w : World) :
    Calls Tryd.prog 53 #[.string A, .int .i64 E] w fun e w' => e = .returned (.agg #[.string A, .int .i64 E]) ∧ Below w.heap.size w w' := by
  have hb : Tryd.prog.built 98 [(0, .string A), (1, .int .i64 E)] = some #[.string A, .int .i64 E] := by kernel_rfl
  have HM := Lib.hid (Hold.Hld.start w)
  go_enter Tryd.func53, Tryd.ntmps53
  go_wp2_with ((first
    | (with_reducible refine Hold.alloc HM.out rfl rfl zLaid zero_zLaid ?_; clear HM; intro b0 w HM; simp only [List.nil_append] at HM; replace HM := Lib.hid HM)
    | (refine Hold.store HM.out 0 (v' := [.string A, .int .i64 E]) rfl rfl rfl rfl rfl (by simp [zLaid_len]) (Hold.lay_all rfl) (by simp [Hold.Single, Value.oneCell']) row_zLaid ?_; clear HM; intro w HM; simp only [List.set_cons_zero] at HM; replace HM := Lib.hid HM)))
  refine bodyPost_ret (Hold.results1 HM.out 0 rfl _ rfl rfl row_zLaid) rfl ?_
  exact ⟨rfl, HM.out.below⟩

/-- A row of parts in memory. -/
def PartsR (w : World) (b : Nat) (l : List (ByteArray × Int)) : Prop := b < w.heap.size ∧ ∀ i x, l[i]? = some x → w.cell? ⟨b, i * 2, none⟩ = some (.string x.1) ∧ w.cell? ⟨b, i * 2 + 1, none⟩ = some (.int .i64 x.2)

set_option maxHeartbeats 3200000 in
theorem joined_any (l : List (ByteArray × Int)) (n b c : Nat) (X : ByteArray) (E : Int) (w : World) (hX : go ⟨#[]⟩ l = (X, E)) (hr : PartsR w b l) (hn : l.length = n) (hn2 : n ≤ 8) (hs : ∀ x ∈ l, x.1.size ≤ 1000000000000) :
    Calls Tryd.prog 52 #[.slice (some ⟨b, 0, none⟩) n c] w fun e w' => e = .returned (.tuple #[.string X, .int .i64 E]) ∧ Below w.heap.size w w' := by
  have HR := Lib.hid hr
  have HN := Lib.hid hn
  have HS := Lib.hid hs
  have HX := Lib.hid hX
  clear hr hn hs hX
  go_enter Tryd.func52, Tryd.ntmps52
  go_wp2
  go_loopw [4, 9] (fun o i wr => ∃ (j : Nat) (out : ByteArray), j ≤ n ∧ o = .string out ∧ i = .int .i64 j ∧ out.size ≤ 1000000000000 * j ∧ go out (l.drop j) = (X, E) ∧ Below w.heap.size w wr) (fun _ i _ => n - (intOf i).toNat)
  case atStart => exact ⟨0, ⟨#[]⟩, by omega, rfl, rfl, by simp [ByteArray.size], HX.out, Below.refl _ _⟩
  case round =>
    obtain ⟨j, out, hj, rfl, rfl, hos, hgo, hbel⟩ := hrel
    have HW := Lib.hid hbel
    have HG := Lib.hid hgo
    have HO := Lib.hid hos
    clear hbel hgo hos
    obtain ⟨hb, hc⟩ := HR.out
    by_cases hlt : j < n
    · have hjl : j < l.length := by have := HN.out; omega
      obtain ⟨⟨A, F⟩, hx⟩ : ∃ x, l[j]? = some x := ⟨_, List.getElem?_eq_getElem hjl⟩
      have hdrop : l.drop j = (A, F) :: l.drop (j + 1) := by
        rw [List.drop_eq_getElem_cons hjl]
        exact congrArg (fun x => x :: l.drop (j + 1)) (Option.some.inj ((List.getElem?_eq_getElem hjl).symm.trans hx))
      have c1 : wr.cell? ⟨b, j * 2, none⟩ = some (.string A) := (HW.out.cell (p := ⟨b, j * 2, none⟩) hb).trans (hc j _ hx).1
      have c2 : wr.cell? ⟨b, j * 2 + 1, none⟩ = some (.int .i64 F) := (HW.out.cell (p := ⟨b, j * 2 + 1, none⟩) hb).trans (hc j _ hx).2
      have hA : A.size ≤ 1000000000000 := HS.out _ (List.mem_of_getElem? hx)
      have HG2 := Lib.hid (hdrop ▸ HG.out)
      have HW2 := Lib.hid (HW.out.alloc HW.out.size (.cells #[.string A, .int .i64 F] 98))
      have HA := Lib.hid hA
      clear hx hdrop hc hb hA
      by_cases hF : F = 0
      · subst hF
        have hne : ((0 : Int) != 0) = false := by simp
        have hap : ¬ 9223372036854775807 < out.size + A.size := by have := HA.out; have := HO.out; omega
        go_wp2
        go_roundw
        case rel =>
          refine ⟨j + 1, out ++ A, by omega, rfl, by go_num, ?_, ?_, HW2.out⟩
          · have := HA.out; have := HO.out; rw [ByteArray.size_append]; omega
          · have := HG2.out
            rwa [go_ok _ _ _ rfl] at this
        case measure => simp [intOf]; omega
      · have hne : (F != 0) = true := by simp [hF]
        obtain ⟨rfl, rfl⟩ : X = ⟨#[]⟩ ∧ E = F := by
          have := HG2.out
          rw [go_err _ _ _ hF] at this
          cases this
          exact ⟨rfl, rfl⟩
        clear hF
        go_wp2
        go_quiet (fail)
        go_wp2
        go_ret2
        exact ⟨rfl, belowN HW2.out nq⟩
    · obtain rfl : j = n := by omega
      have hlt2 : ¬ ((j : Int) < (j : Int)) := by omega
      obtain ⟨rfl, rfl⟩ : X = out ∧ E = 0 := by
        have := HG.out
        rw [List.drop_eq_nil_of_le (Nat.le_of_eq HN.out)] at this
        cases this
        exact ⟨rfl, rfl⟩
      clear hc hb
      go_wp2
      go_ret2
      exact ⟨rfl, HW.out⟩
end Go.Proofs.YtlinpbmglcjkkaaDoor.Joi
