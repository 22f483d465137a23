/-
  Parts read one by one (next of package letter), at texts, numbers and lists of them: what is answered, where the reader stands behind it, and that all else is left. Conditions: those that each lemma names.
-/
import Derived.Test.YtlinpbmglcjkkaaDoorLetA
import Derived.Test.YtlinpbmglcjkkaaDoorReg
import Derived.Orders
namespace Go.Proofs.YtlinpbmglcjkkaaDoor.Rdr
open Go.RowKit Mur Prt Lanes Hold
open RLet (cellInt cellStr cellInts cellStrs)
set_option maxRecDepth 100000
set_option linter.unusedSimpArgs false

theorem cellErr : Hold.TyCell Tryd.prog 39 := ⟨_, Tryd.underlying39, rfl, by kernel_rfl⟩
section
variable {P : Program} {op : Oper} {a : Act} {w w0 : World} {m : List Blk} {Q : Exit → Act → World → Prop}
/-- A store, carried out. -/
theorem store_wp (h : Hld w0 m w) (i : Nat) {b o : Nat} {t ty : TypeId} {v v' : List Value} {c : Value} {x y : Operand} {K : Act → World → Prop} (ho : op.op = .store ty x y) (hx : a.eval x = .pointer (some ⟨b, o, none⟩)) (hy : a.eval y = c) (hi : m[i]? = some ⟨b, t, v⟩) (hl : o < v.length) (hv : v.set o c = v') (h1 : c.cells = #[c] ∧ c.oneCell' = true) (hr : TyCell P ty)
    (hk : ∀ w', w' = w.setCells b o [c] → Hld w0 (m.set i ⟨b, t, v'⟩) w' → K (a.put op.dst undef) w') : Oper.wp P op a w K Q := by
  obtain ⟨d, hu, hd, hs⟩ := hr
  subst hv
  have hth := h.there i hi o 1 (by show o + 1 ≤ v.length; omega)
  have hst := run_storeCells_cells (P := P) b o [c] 0 w (by intro j hj; simpa using (hth j (by simpa using hj)).1) (by intro j hj; simpa using (hth j (by simpa using hj)).2) (by
    intro z hz
    obtain rfl := List.mem_singleton.1 hz
    exact h1.2)
  rw [Nat.add_zero] at hst
  have hrun : (storeVar ty ⟨b, o, none⟩ c).run P w = .ok () (w.setCells b o [c]) := by
    cases hq : P.info? ty with
    | none => simp [hq] at hs
    | some i =>
      have hs1 : i.size = 1 := by simpa [hq] using hs
      simp [storeVar, sizeOf, typeInfo, hq, h1.1, hs1, hst]
  unfold Oper.wp execOp
  simp only [ho, hx, hy, Instr.storeAt, Instr.sureAddr, Sem.run_bind, Sem.run_pure, Result.andThen_ok, hrun]
  exact hk _ rfl (h.set i hi o [c])
end

set_option maxHeartbeats 800000 in
theorem nextStr_any (s : ByteArray) (p : Int) (X : ByteArray) (P E : Int) (R : ∀ u, Calls Tryd.prog 42 #[.string s, .int .i64 p] u fun e w' => e = .returned (.tuple #[.string X, .int .i64 P, .int .i64 E]) ∧ Below u.heap.size u w')
    (w0 w : World) (m : List Blk) (i b : Nat) (h : Hld w0 m w) (hi : m[i]? = some ⟨b, 68, [.string s, .int .i64 p, .int .i64 0]⟩) :
    Calls Tryd.prog 41 #[.pointer (some ⟨b, 0, none⟩), .func (.func 42) #[] #[]] w fun e w' => e = .returned (.string X) ∧ (∀ a l, IntsR w a l → (∀ q, a = some q → q.block ≠ b) → IntsR w' a l) ∧ Hld w0 (m.set i ⟨b, 68, [.string s, .int .i64 P, .int .i64 E]⟩) w' := by
  have HR := Lib.hid R
  have HM := Lib.hid h
  have HI := Lib.hid hi
  have HS := Lib.hid (List.getElem?_eq_some_iff.1 hi).1
  have HB := Lib.hid (Below.refl w.heap.size w)
  have HL := Lib.hid (h.at i hi).lt
  clear R h hi
  go_enter Tryd.func41, Tryd.ntmps41
  go_upto_region 3 with ((first
    | (with_reducible refine Hold.load1 HM.out i (c := .int .i64 0) rfl rfl rfl HI.out rfl (cellErr) ?_)))
  replace HM := Lib.hid HM.out.drew
  replace HB := Lib.hid HB.out.drew
  have HN := Lib.hid (Nat.le_refl w.drew.heap.size)
  refine wp_region_any (by kernel_rfl) ?_
  change wpAny _ _ _ _ _ _ _ (World.drew w)
  refine wpAny_take (i := 0) (v := .pointer (some ⟨b, 0, none⟩)) rfl (by kernel_rfl) (by kernel_rfl) (by kernel_rfl) (fun _ _ _ h => h) (Or.inl ⟨by rfl, fun u => by go_simp⟩) ?_
  try simp only [List.getElem_toArray, List.getElem_cons_succ, List.getElem_cons_zero, Act.put, List.setIfInBounds_toArray, List.set_cons_zero, List.set_cons_succ]
  refine wpAny_take (i := 1) (v := .pointer (some ⟨b, 0, none⟩)) rfl (by kernel_rfl) (by kernel_rfl) (by kernel_rfl) (fun _ _ _ h => h) (Or.inl ⟨by rfl, fun u => by go_simp⟩) ?_
  try simp only [List.getElem_toArray, List.getElem_cons_succ, List.getElem_cons_zero, Act.put, List.setIfInBounds_toArray, List.set_cons_zero, List.set_cons_succ]
  refine wpAny_take (i := 2) (v := .func (.func 42) #[] #[]) rfl (by kernel_rfl) (by kernel_rfl) (by kernel_rfl) (fun _ _ _ h => h) (Or.inl ⟨by rfl, fun u => by go_simp⟩) ?_
  try simp only [List.getElem_toArray, List.getElem_cons_succ, List.getElem_cons_zero, Act.put, List.setIfInBounds_toArray, List.set_cons_zero, List.set_cons_succ]
  refine wpAny_take (i := 3) (v := .pointer (some ⟨b, 0, none⟩)) rfl (by kernel_rfl) (by kernel_rfl) (by kernel_rfl) (fun _ _ _ h => h) (Or.inl ⟨by rfl, fun u => by go_simp⟩) ?_
  try simp only [List.getElem_toArray, List.getElem_cons_succ, List.getElem_cons_zero, Act.put, List.setIfInBounds_toArray, List.set_cons_zero, List.set_cons_succ]
  refine wpAny_take (i := 4) (v := .pointer (some ⟨b, 0, none⟩)) rfl (by kernel_rfl) (by kernel_rfl) (by kernel_rfl) (fun _ _ _ h => h) (Or.inl ⟨by rfl, fun u => by go_simp⟩) ?_
  try simp only [List.getElem_toArray, List.getElem_cons_succ, List.getElem_cons_zero, Act.put, List.setIfInBounds_toArray, List.set_cons_zero, List.set_cons_succ]
  refine wpAny_take (i := 5) (v := .pointer (some ⟨b, 0, none⟩)) rfl (by kernel_rfl) (by kernel_rfl) (by kernel_rfl) (fun _ _ _ h => h) (Or.inl ⟨by rfl, fun u => by go_simp⟩) ?_
  try simp only [List.getElem_toArray, List.getElem_cons_succ, List.getElem_cons_zero, Act.put, List.setIfInBounds_toArray, List.set_cons_zero, List.set_cons_succ]
  refine wpAny_take (i := 7) (v := .pointer (some ⟨b, 0, none⟩)) rfl (by kernel_rfl) (by kernel_rfl) (by kernel_rfl) (fun _ _ _ h => h) (Or.inl ⟨by rfl, fun u => by go_simp⟩) ?_
  try simp only [List.getElem_toArray, List.getElem_cons_succ, List.getElem_cons_zero, Act.put, List.setIfInBounds_toArray, List.set_cons_zero, List.set_cons_succ]
  refine wpAny_take (i := 8) (v := .pointer (some ⟨b, 0, none⟩)) rfl (by kernel_rfl) (by kernel_rfl) (by kernel_rfl) (fun _ _ _ h => h) (Or.inl ⟨by rfl, fun u => by go_simp⟩) ?_
  try simp only [List.getElem_toArray, List.getElem_cons_succ, List.getElem_cons_zero, Act.put, List.setIfInBounds_toArray, List.set_cons_zero, List.set_cons_succ]
  refine wpAny_take (i := 9) (v := .pointer (some ⟨b, 1, none⟩)) rfl (by kernel_rfl) (by kernel_rfl) (by kernel_rfl) (fun _ _ _ h => h) (Or.inl ⟨by rfl, fun u => by go_simp⟩) ?_
  try simp only [List.getElem_toArray, List.getElem_cons_succ, List.getElem_cons_zero, Act.put, List.setIfInBounds_toArray, List.set_cons_zero, List.set_cons_succ]
  have k0 : w.drew.cell? ⟨b, 0, none⟩ = some (.string s) := (HM.out.at i HI.out).row.cell rfl
  have k1 : w.drew.cell? ⟨b, 1, none⟩ = some (.int .i64 p) := (HM.out.at i HI.out).row.cell rfl
  refine Reg.reads (fun i => if i = 6 then (some 18, .string s) else (some 22, .int .i64 p)) (fuel := 12) 2 [6, 10] _ _ rfl (by decide) (by kernel_rfl) (by kernel_rfl) (by kernel_rfl) (fun j hj => ?_) ?_
  · simp only [List.mem_cons, List.not_mem_nil, or_false] at hj
    rcases hj with rfl | rfl
    · exact ⟨_, rfl, rfl, by go_simp⟩
    · exact ⟨_, rfl, rfl, by go_simp⟩
  clear k0 k1
  simp only [List.foldl, Nat.reduceEqDiff, if_true, if_false, Act.put, List.setIfInBounds_toArray, List.set_cons_zero, List.set_cons_succ]
  refine Reg.only (i := 11) rfl rfl (by kernel_rfl) (fun K hK => ?_)
  go_simp
  refine (HR.out _).mono ?_
  rintro e u ⟨rfl, hb⟩
  replace HM := Lib.hid (HM.out.next hb)
  replace HB := Lib.hid (HB.out.trans (hb.mono HB.out.size))
  refine hK _ _ ?_
  clear hK K hb HN
  try simp only [List.getElem_toArray, List.getElem_cons_succ, List.getElem_cons_zero, Act.put, List.setIfInBounds_toArray, List.set_cons_zero, List.set_cons_succ]
  refine wpAny_take (i := 12) (v := .tuple #[.string X, .int .i64 P, .int .i64 E]) rfl (by kernel_rfl) (by kernel_rfl) (by kernel_rfl) (fun _ _ _ h => h) (Or.inl ⟨by rfl, fun u => by go_simp⟩) ?_
  try simp only [List.getElem_toArray, List.getElem_cons_succ, List.getElem_cons_zero, Act.put, List.setIfInBounds_toArray, List.set_cons_zero, List.set_cons_succ]
  refine wpAny_take (i := 13) (v := .string X) rfl (by kernel_rfl) (by kernel_rfl) (by kernel_rfl) (fun _ _ _ h => h) (Or.inl ⟨by rfl, fun u => by go_simp⟩) ?_
  try simp only [List.getElem_toArray, List.getElem_cons_succ, List.getElem_cons_zero, Act.put, List.setIfInBounds_toArray, List.set_cons_zero, List.set_cons_succ]
  refine wpAny_take (i := 14) (v := .int .i64 P) rfl (by kernel_rfl) (by kernel_rfl) (by kernel_rfl) (fun _ _ _ h => h) (Or.inl ⟨by rfl, fun u => by go_simp⟩) ?_
  try simp only [List.getElem_toArray, List.getElem_cons_succ, List.getElem_cons_zero, Act.put, List.setIfInBounds_toArray, List.set_cons_zero, List.set_cons_succ]
  refine wpAny_take (i := 15) (v := .int .i64 E) rfl (by kernel_rfl) (by kernel_rfl) (by kernel_rfl) (fun _ _ _ h => h) (Or.inl ⟨by rfl, fun u => by go_simp⟩) ?_
  try simp only [List.getElem_toArray, List.getElem_cons_succ, List.getElem_cons_zero, Act.put, List.setIfInBounds_toArray, List.set_cons_zero, List.set_cons_succ]
  refine wpAny_take (i := 16) (v := .string X) rfl (by kernel_rfl) (by kernel_rfl) (by kernel_rfl) (fun _ _ _ h => h) (Or.inl ⟨by rfl, fun u => by go_simp⟩) ?_
  try simp only [List.getElem_toArray, List.getElem_cons_succ, List.getElem_cons_zero, Act.put, List.setIfInBounds_toArray, List.set_cons_zero, List.set_cons_succ]
  refine wpAny_take (i := 17) (v := .pointer (some ⟨b, 0, none⟩)) rfl (by kernel_rfl) (by kernel_rfl) (by kernel_rfl) (fun _ _ _ h => h) (Or.inl ⟨by rfl, fun u => by go_simp⟩) ?_
  try simp only [List.getElem_toArray, List.getElem_cons_succ, List.getElem_cons_zero, Act.put, List.setIfInBounds_toArray, List.set_cons_zero, List.set_cons_succ]
  refine wpAny_take (i := 18) (v := .pointer (some ⟨b, 1, none⟩)) rfl (by kernel_rfl) (by kernel_rfl) (by kernel_rfl) (fun _ _ _ h => h) (Or.inl ⟨by rfl, fun u => by go_simp⟩) ?_
  try simp only [List.getElem_toArray, List.getElem_cons_succ, List.getElem_cons_zero, Act.put, List.setIfInBounds_toArray, List.set_cons_zero, List.set_cons_succ]
  refine Reg.only (i := 19) (by simp only [List.getElem?_toArray, List.getElem?_cons_succ, List.getElem?_cons_zero]; rfl) rfl (by kernel_rfl) (fun K hK => ?_)
  refine store_wp HM.out i (c := .int .i64 P) (v' := [.string s, .int .i64 P, .int .i64 0]) rfl rfl rfl HI.out (show (1 : Nat) < 3 from by decide) rfl (Hold.cell_int _ _) cellInt ?_
  intro w2 hw2 hm2
  refine hK _ _ ?_
  clear hK K
  replace HI := Lib.hid (show (m.set i ⟨b, 68, [.string s, .int .i64 P, .int .i64 0]⟩)[i]? = some ⟨b, 68, [.string s, .int .i64 P, .int .i64 0]⟩ from by rw [List.getElem?_set_self HS.out])
  have HM2 := Lib.hid hm2
  have HW2 := Lib.hid hw2
  clear hm2 hw2 HM
  try simp only [List.getElem_toArray, List.getElem_cons_succ, List.getElem_cons_zero, Act.put, List.setIfInBounds_toArray, List.set_cons_zero, List.set_cons_succ]
  refine wpAny_take (i := 20) (v := .pointer (some ⟨b, 0, none⟩)) rfl (by kernel_rfl) (by kernel_rfl) (by kernel_rfl) (fun _ _ _ h => h) (Or.inl ⟨by rfl, fun u => by go_simp⟩) ?_
  try simp only [List.getElem_toArray, List.getElem_cons_succ, List.getElem_cons_zero, Act.put, List.setIfInBounds_toArray, List.set_cons_zero, List.set_cons_succ]
  refine wpAny_take (i := 21) (v := .pointer (some ⟨b, 2, none⟩)) rfl (by kernel_rfl) (by kernel_rfl) (by kernel_rfl) (fun _ _ _ h => h) (Or.inl ⟨by rfl, fun u => by go_simp⟩) ?_
  try simp only [List.getElem_toArray, List.getElem_cons_succ, List.getElem_cons_zero, Act.put, List.setIfInBounds_toArray, List.set_cons_zero, List.set_cons_succ]
  refine Reg.only (i := 22) (by simp only [List.getElem?_toArray, List.getElem?_cons_succ, List.getElem?_cons_zero]; rfl) rfl (by kernel_rfl) (fun K hK => ?_)
  refine store_wp HM2.out i (c := .int .i64 E) (v' := [.string s, .int .i64 P, .int .i64 E]) rfl rfl rfl HI.out (show (2 : Nat) < 3 from by decide) rfl (Hold.cell_int _ _) cellErr ?_
  intro w3 hw3 hm3
  refine hK _ _ ?_
  clear hK K
  rw [List.set_set] at hm3
  have HM3 := Lib.hid hm3
  have HW3 := Lib.hid hw3
  clear hm3 hw3 HM2 HI
  refine wpAny_done (by kernel_rfl) ?_ 0
  go_wp2
  go_ret
  refine ⟨rfl, fun a l k hq => ?_, HM3.out⟩
  rw [HW3.out, HW2.out]
  exact Hold.ints_sets (Hold.ints_sets (k.below HB.out) _ _ _ hq) _ _ _ hq

set_option maxHeartbeats 800000 in
theorem nextStr_stop (s : ByteArray) (p e0 : Int) (kf : Nat) (h0 : e0 ≠ 0) (w0 w : World) (m : List Blk) (i b : Nat) (h : Hld w0 m w) (hi : m[i]? = some ⟨b, 68, [.string s, .int .i64 p, .int .i64 e0]⟩) :
    Calls Tryd.prog 41 #[.pointer (some ⟨b, 0, none⟩), .func (.func kf) #[] #[]] w fun e w' => e = .returned (.string ⟨#[]⟩) ∧ w = w' := by
  have HM := Lib.hid h
  have HI := Lib.hid hi
  have hd : (e0 == 0) = false := by simp [h0]
  clear h hi h0
  go_enter Tryd.func41, Tryd.ntmps41
  go_wp2_with ((first
    | (with_reducible refine Hold.load1 HM.out i (c := .int .i64 e0) rfl rfl rfl HI.out rfl (cellErr) ?_)))
  go_ret
  exact ⟨rfl, rfl⟩

set_option maxHeartbeats 800000 in
theorem nextNum_any (s : ByteArray) (p : Int) (X : Int) (P E : Int) (R : ∀ u, Calls Tryd.prog 23 #[.string s, .int .i64 p] u fun e w' => e = .returned (.tuple #[.int .i64 X, .int .i64 P, .int .i64 E]) ∧ Below u.heap.size u w')
    (w0 w : World) (m : List Blk) (i b : Nat) (h : Hld w0 m w) (hi : m[i]? = some ⟨b, 68, [.string s, .int .i64 p, .int .i64 0]⟩) :
    Calls Tryd.prog 22 #[.pointer (some ⟨b, 0, none⟩), .func (.func 23) #[] #[]] w fun e w' => e = .returned (.int .i64 X) ∧ (∀ a l, IntsR w a l → (∀ q, a = some q → q.block ≠ b) → IntsR w' a l) ∧ Hld w0 (m.set i ⟨b, 68, [.string s, .int .i64 P, .int .i64 E]⟩) w' := by
  have HR := Lib.hid R
  have HM := Lib.hid h
  have HI := Lib.hid hi
  have HS := Lib.hid (List.getElem?_eq_some_iff.1 hi).1
  have HB := Lib.hid (Below.refl w.heap.size w)
  have HL := Lib.hid (h.at i hi).lt
  clear R h hi
  go_enter Tryd.func22, Tryd.ntmps22
  go_upto_region 3 with ((first
    | (with_reducible refine Hold.load1 HM.out i (c := .int .i64 0) rfl rfl rfl HI.out rfl (cellErr) ?_)))
  replace HM := Lib.hid HM.out.drew
  replace HB := Lib.hid HB.out.drew
  have HN := Lib.hid (Nat.le_refl w.drew.heap.size)
  refine wp_region_any (by kernel_rfl) ?_
  change wpAny _ _ _ _ _ _ _ (World.drew w)
  refine wpAny_take (i := 0) (v := .pointer (some ⟨b, 0, none⟩)) rfl (by kernel_rfl) (by kernel_rfl) (by kernel_rfl) (fun _ _ _ h => h) (Or.inl ⟨by rfl, fun u => by go_simp⟩) ?_
  try simp only [List.getElem_toArray, List.getElem_cons_succ, List.getElem_cons_zero, Act.put, List.setIfInBounds_toArray, List.set_cons_zero, List.set_cons_succ]
  refine wpAny_take (i := 1) (v := .pointer (some ⟨b, 0, none⟩)) rfl (by kernel_rfl) (by kernel_rfl) (by kernel_rfl) (fun _ _ _ h => h) (Or.inl ⟨by rfl, fun u => by go_simp⟩) ?_
  try simp only [List.getElem_toArray, List.getElem_cons_succ, List.getElem_cons_zero, Act.put, List.setIfInBounds_toArray, List.set_cons_zero, List.set_cons_succ]
  refine wpAny_take (i := 2) (v := .func (.func 23) #[] #[]) rfl (by kernel_rfl) (by kernel_rfl) (by kernel_rfl) (fun _ _ _ h => h) (Or.inl ⟨by rfl, fun u => by go_simp⟩) ?_
  try simp only [List.getElem_toArray, List.getElem_cons_succ, List.getElem_cons_zero, Act.put, List.setIfInBounds_toArray, List.set_cons_zero, List.set_cons_succ]
  refine wpAny_take (i := 3) (v := .pointer (some ⟨b, 0, none⟩)) rfl (by kernel_rfl) (by kernel_rfl) (by kernel_rfl) (fun _ _ _ h => h) (Or.inl ⟨by rfl, fun u => by go_simp⟩) ?_
  try simp only [List.getElem_toArray, List.getElem_cons_succ, List.getElem_cons_zero, Act.put, List.setIfInBounds_toArray, List.set_cons_zero, List.set_cons_succ]
  refine wpAny_take (i := 4) (v := .pointer (some ⟨b, 0, none⟩)) rfl (by kernel_rfl) (by kernel_rfl) (by kernel_rfl) (fun _ _ _ h => h) (Or.inl ⟨by rfl, fun u => by go_simp⟩) ?_
  try simp only [List.getElem_toArray, List.getElem_cons_succ, List.getElem_cons_zero, Act.put, List.setIfInBounds_toArray, List.set_cons_zero, List.set_cons_succ]
  refine wpAny_take (i := 5) (v := .pointer (some ⟨b, 0, none⟩)) rfl (by kernel_rfl) (by kernel_rfl) (by kernel_rfl) (fun _ _ _ h => h) (Or.inl ⟨by rfl, fun u => by go_simp⟩) ?_
  try simp only [List.getElem_toArray, List.getElem_cons_succ, List.getElem_cons_zero, Act.put, List.setIfInBounds_toArray, List.set_cons_zero, List.set_cons_succ]
  refine wpAny_take (i := 7) (v := .pointer (some ⟨b, 0, none⟩)) rfl (by kernel_rfl) (by kernel_rfl) (by kernel_rfl) (fun _ _ _ h => h) (Or.inl ⟨by rfl, fun u => by go_simp⟩) ?_
  try simp only [List.getElem_toArray, List.getElem_cons_succ, List.getElem_cons_zero, Act.put, List.setIfInBounds_toArray, List.set_cons_zero, List.set_cons_succ]
  refine wpAny_take (i := 8) (v := .pointer (some ⟨b, 0, none⟩)) rfl (by kernel_rfl) (by kernel_rfl) (by kernel_rfl) (fun _ _ _ h => h) (Or.inl ⟨by rfl, fun u => by go_simp⟩) ?_
  try simp only [List.getElem_toArray, List.getElem_cons_succ, List.getElem_cons_zero, Act.put, List.setIfInBounds_toArray, List.set_cons_zero, List.set_cons_succ]
  refine wpAny_take (i := 9) (v := .pointer (some ⟨b, 1, none⟩)) rfl (by kernel_rfl) (by kernel_rfl) (by kernel_rfl) (fun _ _ _ h => h) (Or.inl ⟨by rfl, fun u => by go_simp⟩) ?_
  try simp only [List.getElem_toArray, List.getElem_cons_succ, List.getElem_cons_zero, Act.put, List.setIfInBounds_toArray, List.set_cons_zero, List.set_cons_succ]
  have k0 : w.drew.cell? ⟨b, 0, none⟩ = some (.string s) := (HM.out.at i HI.out).row.cell rfl
  have k1 : w.drew.cell? ⟨b, 1, none⟩ = some (.int .i64 p) := (HM.out.at i HI.out).row.cell rfl
  refine Reg.reads (fun i => if i = 6 then (some 18, .string s) else (some 22, .int .i64 p)) (fuel := 12) 2 [6, 10] _ _ rfl (by decide) (by kernel_rfl) (by kernel_rfl) (by kernel_rfl) (fun j hj => ?_) ?_
  · simp only [List.mem_cons, List.not_mem_nil, or_false] at hj
    rcases hj with rfl | rfl
    · exact ⟨_, rfl, rfl, by go_simp⟩
    · exact ⟨_, rfl, rfl, by go_simp⟩
  clear k0 k1
  simp only [List.foldl, Nat.reduceEqDiff, if_true, if_false, Act.put, List.setIfInBounds_toArray, List.set_cons_zero, List.set_cons_succ]
  refine Reg.only (i := 11) rfl rfl (by kernel_rfl) (fun K hK => ?_)
  go_simp
  refine (HR.out _).mono ?_
  rintro e u ⟨rfl, hb⟩
  replace HM := Lib.hid (HM.out.next hb)
  replace HB := Lib.hid (HB.out.trans (hb.mono HB.out.size))
  refine hK _ _ ?_
  clear hK K hb HN
  try simp only [List.getElem_toArray, List.getElem_cons_succ, List.getElem_cons_zero, Act.put, List.setIfInBounds_toArray, List.set_cons_zero, List.set_cons_succ]
  refine wpAny_take (i := 12) (v := .tuple #[.int .i64 X, .int .i64 P, .int .i64 E]) rfl (by kernel_rfl) (by kernel_rfl) (by kernel_rfl) (fun _ _ _ h => h) (Or.inl ⟨by rfl, fun u => by go_simp⟩) ?_
  try simp only [List.getElem_toArray, List.getElem_cons_succ, List.getElem_cons_zero, Act.put, List.setIfInBounds_toArray, List.set_cons_zero, List.set_cons_succ]
  refine wpAny_take (i := 13) (v := .int .i64 X) rfl (by kernel_rfl) (by kernel_rfl) (by kernel_rfl) (fun _ _ _ h => h) (Or.inl ⟨by rfl, fun u => by go_simp⟩) ?_
  try simp only [List.getElem_toArray, List.getElem_cons_succ, List.getElem_cons_zero, Act.put, List.setIfInBounds_toArray, List.set_cons_zero, List.set_cons_succ]
  refine wpAny_take (i := 14) (v := .int .i64 P) rfl (by kernel_rfl) (by kernel_rfl) (by kernel_rfl) (fun _ _ _ h => h) (Or.inl ⟨by rfl, fun u => by go_simp⟩) ?_
  try simp only [List.getElem_toArray, List.getElem_cons_succ, List.getElem_cons_zero, Act.put, List.setIfInBounds_toArray, List.set_cons_zero, List.set_cons_succ]
  refine wpAny_take (i := 15) (v := .int .i64 E) rfl (by kernel_rfl) (by kernel_rfl) (by kernel_rfl) (fun _ _ _ h => h) (Or.inl ⟨by rfl, fun u => by go_simp⟩) ?_
  try simp only [List.getElem_toArray, List.getElem_cons_succ, List.getElem_cons_zero, Act.put, List.setIfInBounds_toArray, List.set_cons_zero, List.set_cons_succ]
  refine wpAny_take (i := 16) (v := .int .i64 X) rfl (by kernel_rfl) (by kernel_rfl) (by kernel_rfl) (fun _ _ _ h => h) (Or.inl ⟨by rfl, fun u => by go_simp⟩) ?_
  try simp only [List.getElem_toArray, List.getElem_cons_succ, List.getElem_cons_zero, Act.put, List.setIfInBounds_toArray, List.set_cons_zero, List.set_cons_succ]
  refine wpAny_take (i := 17) (v := .pointer (some ⟨b, 0, none⟩)) rfl (by kernel_rfl) (by kernel_rfl) (by kernel_rfl) (fun _ _ _ h => h) (Or.inl ⟨by rfl, fun u => by go_simp⟩) ?_
  try simp only [List.getElem_toArray, List.getElem_cons_succ, List.getElem_cons_zero, Act.put, List.setIfInBounds_toArray, List.set_cons_zero, List.set_cons_succ]
  refine wpAny_take (i := 18) (v := .pointer (some ⟨b, 1, none⟩)) rfl (by kernel_rfl) (by kernel_rfl) (by kernel_rfl) (fun _ _ _ h => h) (Or.inl ⟨by rfl, fun u => by go_simp⟩) ?_
  try simp only [List.getElem_toArray, List.getElem_cons_succ, List.getElem_cons_zero, Act.put, List.setIfInBounds_toArray, List.set_cons_zero, List.set_cons_succ]
  refine Reg.only (i := 19) (by simp only [List.getElem?_toArray, List.getElem?_cons_succ, List.getElem?_cons_zero]; rfl) rfl (by kernel_rfl) (fun K hK => ?_)
  refine store_wp HM.out i (c := .int .i64 P) (v' := [.string s, .int .i64 P, .int .i64 0]) rfl rfl rfl HI.out (show (1 : Nat) < 3 from by decide) rfl (Hold.cell_int _ _) cellInt ?_
  intro w2 hw2 hm2
  refine hK _ _ ?_
  clear hK K
  replace HI := Lib.hid (show (m.set i ⟨b, 68, [.string s, .int .i64 P, .int .i64 0]⟩)[i]? = some ⟨b, 68, [.string s, .int .i64 P, .int .i64 0]⟩ from by rw [List.getElem?_set_self HS.out])
  have HM2 := Lib.hid hm2
  have HW2 := Lib.hid hw2
  clear hm2 hw2 HM
  try simp only [List.getElem_toArray, List.getElem_cons_succ, List.getElem_cons_zero, Act.put, List.setIfInBounds_toArray, List.set_cons_zero, List.set_cons_succ]
  refine wpAny_take (i := 20) (v := .pointer (some ⟨b, 0, none⟩)) rfl (by kernel_rfl) (by kernel_rfl) (by kernel_rfl) (fun _ _ _ h => h) (Or.inl ⟨by rfl, fun u => by go_simp⟩) ?_
  try simp only [List.getElem_toArray, List.getElem_cons_succ, List.getElem_cons_zero, Act.put, List.setIfInBounds_toArray, List.set_cons_zero, List.set_cons_succ]
  refine wpAny_take (i := 21) (v := .pointer (some ⟨b, 2, none⟩)) rfl (by kernel_rfl) (by kernel_rfl) (by kernel_rfl) (fun _ _ _ h => h) (Or.inl ⟨by rfl, fun u => by go_simp⟩) ?_
  try simp only [List.getElem_toArray, List.getElem_cons_succ, List.getElem_cons_zero, Act.put, List.setIfInBounds_toArray, List.set_cons_zero, List.set_cons_succ]
  refine Reg.only (i := 22) (by simp only [List.getElem?_toArray, List.getElem?_cons_succ, List.getElem?_cons_zero]; rfl) rfl (by kernel_rfl) (fun K hK => ?_)
  refine store_wp HM2.out i (c := .int .i64 E) (v' := [.string s, .int .i64 P, .int .i64 E]) rfl rfl rfl HI.out (show (2 : Nat) < 3 from by decide) rfl (Hold.cell_int _ _) cellErr ?_
  intro w3 hw3 hm3
  refine hK _ _ ?_
  clear hK K
  rw [List.set_set] at hm3
  have HM3 := Lib.hid hm3
  have HW3 := Lib.hid hw3
  clear hm3 hw3 HM2 HI
  refine wpAny_done (by kernel_rfl) ?_ 0
  go_wp2
  go_ret
  refine ⟨rfl, fun a l k hq => ?_, HM3.out⟩
  rw [HW3.out, HW2.out]
  exact Hold.ints_sets (Hold.ints_sets (k.below HB.out) _ _ _ hq) _ _ _ hq

set_option maxHeartbeats 800000 in
theorem nextNum_stop (s : ByteArray) (p e0 : Int) (kf : Nat) (h0 : e0 ≠ 0) (w0 w : World) (m : List Blk) (i b : Nat) (h : Hld w0 m w) (hi : m[i]? = some ⟨b, 68, [.string s, .int .i64 p, .int .i64 e0]⟩) :
    Calls Tryd.prog 22 #[.pointer (some ⟨b, 0, none⟩), .func (.func kf) #[] #[]] w fun e w' => e = .returned (.int .i64 0) ∧ w = w' := by
  have HM := Lib.hid h
  have HI := Lib.hid hi
  have hd : (e0 == 0) = false := by simp [h0]
  clear h hi h0
  go_enter Tryd.func22, Tryd.ntmps22
  go_wp2_with ((first
    | (with_reducible refine Hold.load1 HM.out i (c := .int .i64 e0) rfl rfl rfl HI.out rfl (cellErr) ?_)))
  go_ret
  exact ⟨rfl, rfl⟩

set_option maxHeartbeats 800000 in
theorem nextNums_any (s : ByteArray) (p : Int) (L : List Nat) (n : Nat) (P E : Int) (R : ∀ u, Calls Tryd.prog 21 #[.string s, .int .i64 p] u fun e w' => ∃ ao c, e = .returned (.tuple #[.slice ao n c, .int .i64 P, .int .i64 E]) ∧ IntsR w' ao (zl L) ∧ (∀ q, ao = some q → u.heap.size ≤ q.block) ∧ Below u.heap.size u w')
    (w0 w : World) (m : List Blk) (i b : Nat) (h : Hld w0 m w) (hi : m[i]? = some ⟨b, 68, [.string s, .int .i64 p, .int .i64 0]⟩) :
    Calls Tryd.prog 20 #[.pointer (some ⟨b, 0, none⟩), .func (.func 21) #[] #[]] w fun e w' => ∃ ao c, e = .returned (.slice ao n c) ∧ IntsR w' ao (zl L) ∧ (∀ q, ao = some q → w.heap.size ≤ q.block) ∧ Hld w0 (m.set i ⟨b, 68, [.string s, .int .i64 P, .int .i64 E]⟩) w' := by
  have HR := Lib.hid R
  have HM := Lib.hid h
  have HI := Lib.hid hi
  have HS := Lib.hid (List.getElem?_eq_some_iff.1 hi).1
  have HB := Lib.hid (Below.refl w.heap.size w)
  have HL := Lib.hid (h.at i hi).lt
  clear R h hi
  go_enter Tryd.func20, Tryd.ntmps20
  go_upto_region 3 with ((first
    | (with_reducible refine Hold.load1 HM.out i (c := .int .i64 0) rfl rfl rfl HI.out rfl (cellErr) ?_)))
  replace HM := Lib.hid HM.out.drew
  replace HB := Lib.hid HB.out.drew
  have HN := Lib.hid (Nat.le_refl w.drew.heap.size)
  refine wp_region_any (by kernel_rfl) ?_
  change wpAny _ _ _ _ _ _ _ (World.drew w)
  refine wpAny_take (i := 0) (v := .pointer (some ⟨b, 0, none⟩)) rfl (by kernel_rfl) (by kernel_rfl) (by kernel_rfl) (fun _ _ _ h => h) (Or.inl ⟨by rfl, fun u => by go_simp⟩) ?_
  try simp only [List.getElem_toArray, List.getElem_cons_succ, List.getElem_cons_zero, Act.put, List.setIfInBounds_toArray, List.set_cons_zero, List.set_cons_succ]
  refine wpAny_take (i := 1) (v := .pointer (some ⟨b, 0, none⟩)) rfl (by kernel_rfl) (by kernel_rfl) (by kernel_rfl) (fun _ _ _ h => h) (Or.inl ⟨by rfl, fun u => by go_simp⟩) ?_
  try simp only [List.getElem_toArray, List.getElem_cons_succ, List.getElem_cons_zero, Act.put, List.setIfInBounds_toArray, List.set_cons_zero, List.set_cons_succ]
  refine wpAny_take (i := 2) (v := .func (.func 21) #[] #[]) rfl (by kernel_rfl) (by kernel_rfl) (by kernel_rfl) (fun _ _ _ h => h) (Or.inl ⟨by rfl, fun u => by go_simp⟩) ?_
  try simp only [List.getElem_toArray, List.getElem_cons_succ, List.getElem_cons_zero, Act.put, List.setIfInBounds_toArray, List.set_cons_zero, List.set_cons_succ]
  refine wpAny_take (i := 3) (v := .pointer (some ⟨b, 0, none⟩)) rfl (by kernel_rfl) (by kernel_rfl) (by kernel_rfl) (fun _ _ _ h => h) (Or.inl ⟨by rfl, fun u => by go_simp⟩) ?_
  try simp only [List.getElem_toArray, List.getElem_cons_succ, List.getElem_cons_zero, Act.put, List.setIfInBounds_toArray, List.set_cons_zero, List.set_cons_succ]
  refine wpAny_take (i := 4) (v := .pointer (some ⟨b, 0, none⟩)) rfl (by kernel_rfl) (by kernel_rfl) (by kernel_rfl) (fun _ _ _ h => h) (Or.inl ⟨by rfl, fun u => by go_simp⟩) ?_
  try simp only [List.getElem_toArray, List.getElem_cons_succ, List.getElem_cons_zero, Act.put, List.setIfInBounds_toArray, List.set_cons_zero, List.set_cons_succ]
  refine wpAny_take (i := 5) (v := .pointer (some ⟨b, 0, none⟩)) rfl (by kernel_rfl) (by kernel_rfl) (by kernel_rfl) (fun _ _ _ h => h) (Or.inl ⟨by rfl, fun u => by go_simp⟩) ?_
  try simp only [List.getElem_toArray, List.getElem_cons_succ, List.getElem_cons_zero, Act.put, List.setIfInBounds_toArray, List.set_cons_zero, List.set_cons_succ]
  refine wpAny_take (i := 7) (v := .pointer (some ⟨b, 0, none⟩)) rfl (by kernel_rfl) (by kernel_rfl) (by kernel_rfl) (fun _ _ _ h => h) (Or.inl ⟨by rfl, fun u => by go_simp⟩) ?_
  try simp only [List.getElem_toArray, List.getElem_cons_succ, List.getElem_cons_zero, Act.put, List.setIfInBounds_toArray, List.set_cons_zero, List.set_cons_succ]
  refine wpAny_take (i := 8) (v := .pointer (some ⟨b, 0, none⟩)) rfl (by kernel_rfl) (by kernel_rfl) (by kernel_rfl) (fun _ _ _ h => h) (Or.inl ⟨by rfl, fun u => by go_simp⟩) ?_
  try simp only [List.getElem_toArray, List.getElem_cons_succ, List.getElem_cons_zero, Act.put, List.setIfInBounds_toArray, List.set_cons_zero, List.set_cons_succ]
  refine wpAny_take (i := 9) (v := .pointer (some ⟨b, 1, none⟩)) rfl (by kernel_rfl) (by kernel_rfl) (by kernel_rfl) (fun _ _ _ h => h) (Or.inl ⟨by rfl, fun u => by go_simp⟩) ?_
  try simp only [List.getElem_toArray, List.getElem_cons_succ, List.getElem_cons_zero, Act.put, List.setIfInBounds_toArray, List.set_cons_zero, List.set_cons_succ]
  have k0 : w.drew.cell? ⟨b, 0, none⟩ = some (.string s) := (HM.out.at i HI.out).row.cell rfl
  have k1 : w.drew.cell? ⟨b, 1, none⟩ = some (.int .i64 p) := (HM.out.at i HI.out).row.cell rfl
  refine Reg.reads (fun i => if i = 6 then (some 18, .string s) else (some 22, .int .i64 p)) (fuel := 12) 2 [6, 10] _ _ rfl (by decide) (by kernel_rfl) (by kernel_rfl) (by kernel_rfl) (fun j hj => ?_) ?_
  · simp only [List.mem_cons, List.not_mem_nil, or_false] at hj
    rcases hj with rfl | rfl
    · exact ⟨_, rfl, rfl, by go_simp⟩
    · exact ⟨_, rfl, rfl, by go_simp⟩
  clear k0 k1
  simp only [List.foldl, Nat.reduceEqDiff, if_true, if_false, Act.put, List.setIfInBounds_toArray, List.set_cons_zero, List.set_cons_succ]
  refine Reg.only (i := 11) rfl rfl (by kernel_rfl) (fun K hK => ?_)
  go_simp
  refine (HR.out _).mono ?_
  rintro e u ⟨ao, c, rfl, ha, hf, hb⟩
  replace HM := Lib.hid (HM.out.next hb)
  replace HB := Lib.hid (HB.out.trans (hb.mono HB.out.size))
  have HA := Lib.hid ha
  have HF := Lib.hid (show ∀ q, ao = some q → w.heap.size ≤ q.block from hf)
  refine hK _ _ ?_
  clear hK K hb HN ha hf
  try simp only [List.getElem_toArray, List.getElem_cons_succ, List.getElem_cons_zero, Act.put, List.setIfInBounds_toArray, List.set_cons_zero, List.set_cons_succ]
  refine wpAny_take (i := 12) (v := .tuple #[.slice ao n c, .int .i64 P, .int .i64 E]) rfl (by kernel_rfl) (by kernel_rfl) (by kernel_rfl) (fun _ _ _ h => h) (Or.inl ⟨by rfl, fun u => by go_simp⟩) ?_
  try simp only [List.getElem_toArray, List.getElem_cons_succ, List.getElem_cons_zero, Act.put, List.setIfInBounds_toArray, List.set_cons_zero, List.set_cons_succ]
  refine wpAny_take (i := 13) (v := .slice ao n c) rfl (by kernel_rfl) (by kernel_rfl) (by kernel_rfl) (fun _ _ _ h => h) (Or.inl ⟨by rfl, fun u => by go_simp⟩) ?_
  try simp only [List.getElem_toArray, List.getElem_cons_succ, List.getElem_cons_zero, Act.put, List.setIfInBounds_toArray, List.set_cons_zero, List.set_cons_succ]
  refine wpAny_take (i := 14) (v := .int .i64 P) rfl (by kernel_rfl) (by kernel_rfl) (by kernel_rfl) (fun _ _ _ h => h) (Or.inl ⟨by rfl, fun u => by go_simp⟩) ?_
  try simp only [List.getElem_toArray, List.getElem_cons_succ, List.getElem_cons_zero, Act.put, List.setIfInBounds_toArray, List.set_cons_zero, List.set_cons_succ]
  refine wpAny_take (i := 15) (v := .int .i64 E) rfl (by kernel_rfl) (by kernel_rfl) (by kernel_rfl) (fun _ _ _ h => h) (Or.inl ⟨by rfl, fun u => by go_simp⟩) ?_
  try simp only [List.getElem_toArray, List.getElem_cons_succ, List.getElem_cons_zero, Act.put, List.setIfInBounds_toArray, List.set_cons_zero, List.set_cons_succ]
  refine wpAny_take (i := 16) (v := .slice ao n c) rfl (by kernel_rfl) (by kernel_rfl) (by kernel_rfl) (fun _ _ _ h => h) (Or.inl ⟨by rfl, fun u => by go_simp⟩) ?_
  try simp only [List.getElem_toArray, List.getElem_cons_succ, List.getElem_cons_zero, Act.put, List.setIfInBounds_toArray, List.set_cons_zero, List.set_cons_succ]
  refine wpAny_take (i := 17) (v := .pointer (some ⟨b, 0, none⟩)) rfl (by kernel_rfl) (by kernel_rfl) (by kernel_rfl) (fun _ _ _ h => h) (Or.inl ⟨by rfl, fun u => by go_simp⟩) ?_
  try simp only [List.getElem_toArray, List.getElem_cons_succ, List.getElem_cons_zero, Act.put, List.setIfInBounds_toArray, List.set_cons_zero, List.set_cons_succ]
  refine wpAny_take (i := 18) (v := .pointer (some ⟨b, 1, none⟩)) rfl (by kernel_rfl) (by kernel_rfl) (by kernel_rfl) (fun _ _ _ h => h) (Or.inl ⟨by rfl, fun u => by go_simp⟩) ?_
  try simp only [List.getElem_toArray, List.getElem_cons_succ, List.getElem_cons_zero, Act.put, List.setIfInBounds_toArray, List.set_cons_zero, List.set_cons_succ]
  refine Reg.only (i := 19) (by simp only [List.getElem?_toArray, List.getElem?_cons_succ, List.getElem?_cons_zero]; rfl) rfl (by kernel_rfl) (fun K hK => ?_)
  refine store_wp HM.out i (c := .int .i64 P) (v' := [.string s, .int .i64 P, .int .i64 0]) rfl rfl rfl HI.out (show (1 : Nat) < 3 from by decide) rfl (Hold.cell_int _ _) cellInt ?_
  intro w2 hw2 hm2
  refine hK _ _ ?_
  clear hK K
  replace HI := Lib.hid (show (m.set i ⟨b, 68, [.string s, .int .i64 P, .int .i64 0]⟩)[i]? = some ⟨b, 68, [.string s, .int .i64 P, .int .i64 0]⟩ from by rw [List.getElem?_set_self HS.out])
  have HM2 := Lib.hid hm2
  have HW2 := Lib.hid hw2
  clear hm2 hw2 HM
  try simp only [List.getElem_toArray, List.getElem_cons_succ, List.getElem_cons_zero, Act.put, List.setIfInBounds_toArray, List.set_cons_zero, List.set_cons_succ]
  refine wpAny_take (i := 20) (v := .pointer (some ⟨b, 0, none⟩)) rfl (by kernel_rfl) (by kernel_rfl) (by kernel_rfl) (fun _ _ _ h => h) (Or.inl ⟨by rfl, fun u => by go_simp⟩) ?_
  try simp only [List.getElem_toArray, List.getElem_cons_succ, List.getElem_cons_zero, Act.put, List.setIfInBounds_toArray, List.set_cons_zero, List.set_cons_succ]
  refine wpAny_take (i := 21) (v := .pointer (some ⟨b, 2, none⟩)) rfl (by kernel_rfl) (by kernel_rfl) (by kernel_rfl) (fun _ _ _ h => h) (Or.inl ⟨by rfl, fun u => by go_simp⟩) ?_
  try simp only [List.getElem_toArray, List.getElem_cons_succ, List.getElem_cons_zero, Act.put, List.setIfInBounds_toArray, List.set_cons_zero, List.set_cons_succ]
  refine Reg.only (i := 22) (by simp only [List.getElem?_toArray, List.getElem?_cons_succ, List.getElem?_cons_zero]; rfl) rfl (by kernel_rfl) (fun K hK => ?_)
  refine store_wp HM2.out i (c := .int .i64 E) (v' := [.string s, .int .i64 P, .int .i64 E]) rfl rfl rfl HI.out (show (2 : Nat) < 3 from by decide) rfl (Hold.cell_int _ _) cellErr ?_
  intro w3 hw3 hm3
  refine hK _ _ ?_
  clear hK K
  rw [List.set_set] at hm3
  have HM3 := Lib.hid hm3
  have HW3 := Lib.hid hw3
  clear hm3 hw3 HM2 HI
  refine wpAny_done (by kernel_rfl) ?_ 0
  go_wp2
  go_ret
  refine ⟨ao, ⟨c, rfl⟩, ?_, HF.out, HM3.out⟩
  have hq : ∀ q, ao = some q → q.block ≠ b := fun q hq => Nat.ne_of_gt (Nat.lt_of_lt_of_le HL.out (HF.out q hq))
  rw [HW3.out, HW2.out]
  exact Hold.ints_sets (Hold.ints_sets HA.out _ _ _ hq) _ _ _ hq

set_option maxHeartbeats 800000 in
theorem nextNums_stop (s : ByteArray) (p e0 : Int) (kf : Nat) (h0 : e0 ≠ 0) (w0 w : World) (m : List Blk) (i b : Nat) (h : Hld w0 m w) (hi : m[i]? = some ⟨b, 68, [.string s, .int .i64 p, .int .i64 e0]⟩) :
    Calls Tryd.prog 20 #[.pointer (some ⟨b, 0, none⟩), .func (.func kf) #[] #[]] w fun e w' => e = .returned (.slice none 0 0) ∧ w = w' := by
  have HM := Lib.hid h
  have HI := Lib.hid hi
  have hd : (e0 == 0) = false := by simp [h0]
  clear h hi h0
  go_enter Tryd.func20, Tryd.ntmps20
  go_wp2_with ((first
    | (with_reducible refine Hold.load1 HM.out i (c := .int .i64 e0) rfl rfl rfl HI.out rfl (cellErr) ?_)))
  go_ret
  exact ⟨rfl, rfl⟩

set_option maxHeartbeats 800000 in
theorem nextStrs_any (s : ByteArray) (p : Int) (L : List (List UInt8)) (n : Nat) (P E : Int) (R : ∀ u, Calls Tryd.prog 45 #[.string s, .int .i64 p] u fun e w' => ∃ ao c, e = .returned (.tuple #[.slice ao n c, .int .i64 P, .int .i64 E]) ∧ StrsR w' ao (tl L) ∧ (∀ q, ao = some q → u.heap.size ≤ q.block) ∧ Below u.heap.size u w')
    (w0 w : World) (m : List Blk) (i b : Nat) (h : Hld w0 m w) (hi : m[i]? = some ⟨b, 68, [.string s, .int .i64 p, .int .i64 0]⟩) :
    Calls Tryd.prog 44 #[.pointer (some ⟨b, 0, none⟩), .func (.func 45) #[] #[]] w fun e w' => ∃ ao c, e = .returned (.slice ao n c) ∧ StrsR w' ao (tl L) ∧ (∀ q, ao = some q → w.heap.size ≤ q.block) ∧ Hld w0 (m.set i ⟨b, 68, [.string s, .int .i64 P, .int .i64 E]⟩) w' := by
  have HR := Lib.hid R
  have HM := Lib.hid h
  have HI := Lib.hid hi
  have HS := Lib.hid (List.getElem?_eq_some_iff.1 hi).1
  have HB := Lib.hid (Below.refl w.heap.size w)
  have HL := Lib.hid (h.at i hi).lt
  clear R h hi
  go_enter Tryd.func44, Tryd.ntmps44
  go_upto_region 3 with ((first
    | (with_reducible refine Hold.load1 HM.out i (c := .int .i64 0) rfl rfl rfl HI.out rfl (cellErr) ?_)))
  replace HM := Lib.hid HM.out.drew
  replace HB := Lib.hid HB.out.drew
  have HN := Lib.hid (Nat.le_refl w.drew.heap.size)
  refine wp_region_any (by kernel_rfl) ?_
  change wpAny _ _ _ _ _ _ _ (World.drew w)
  refine wpAny_take (i := 0) (v := .pointer (some ⟨b, 0, none⟩)) rfl (by kernel_rfl) (by kernel_rfl) (by kernel_rfl) (fun _ _ _ h => h) (Or.inl ⟨by rfl, fun u => by go_simp⟩) ?_
  try simp only [List.getElem_toArray, List.getElem_cons_succ, List.getElem_cons_zero, Act.put, List.setIfInBounds_toArray, List.set_cons_zero, List.set_cons_succ]
  refine wpAny_take (i := 1) (v := .pointer (some ⟨b, 0, none⟩)) rfl (by kernel_rfl) (by kernel_rfl) (by kernel_rfl) (fun _ _ _ h => h) (Or.inl ⟨by rfl, fun u => by go_simp⟩) ?_
  try simp only [List.getElem_toArray, List.getElem_cons_succ, List.getElem_cons_zero, Act.put, List.setIfInBounds_toArray, List.set_cons_zero, List.set_cons_succ]
  refine wpAny_take (i := 2) (v := .func (.func 45) #[] #[]) rfl (by kernel_rfl) (by kernel_rfl) (by kernel_rfl) (fun _ _ _ h => h) (Or.inl ⟨by rfl, fun u => by go_simp⟩) ?_
  try simp only [List.getElem_toArray, List.getElem_cons_succ, List.getElem_cons_zero, Act.put, List.setIfInBounds_toArray, List.set_cons_zero, List.set_cons_succ]
  refine wpAny_take (i := 3) (v := .pointer (some ⟨b, 0, none⟩)) rfl (by kernel_rfl) (by kernel_rfl) (by kernel_rfl) (fun _ _ _ h => h) (Or.inl ⟨by rfl, fun u => by go_simp⟩) ?_
  try simp only [List.getElem_toArray, List.getElem_cons_succ, List.getElem_cons_zero, Act.put, List.setIfInBounds_toArray, List.set_cons_zero, List.set_cons_succ]
  refine wpAny_take (i := 4) (v := .pointer (some ⟨b, 0, none⟩)) rfl (by kernel_rfl) (by kernel_rfl) (by kernel_rfl) (fun _ _ _ h => h) (Or.inl ⟨by rfl, fun u => by go_simp⟩) ?_
  try simp only [List.getElem_toArray, List.getElem_cons_succ, List.getElem_cons_zero, Act.put, List.setIfInBounds_toArray, List.set_cons_zero, List.set_cons_succ]
  refine wpAny_take (i := 5) (v := .pointer (some ⟨b, 0, none⟩)) rfl (by kernel_rfl) (by kernel_rfl) (by kernel_rfl) (fun _ _ _ h => h) (Or.inl ⟨by rfl, fun u => by go_simp⟩) ?_
  try simp only [List.getElem_toArray, List.getElem_cons_succ, List.getElem_cons_zero, Act.put, List.setIfInBounds_toArray, List.set_cons_zero, List.set_cons_succ]
  refine wpAny_take (i := 7) (v := .pointer (some ⟨b, 0, none⟩)) rfl (by kernel_rfl) (by kernel_rfl) (by kernel_rfl) (fun _ _ _ h => h) (Or.inl ⟨by rfl, fun u => by go_simp⟩) ?_
  try simp only [List.getElem_toArray, List.getElem_cons_succ, List.getElem_cons_zero, Act.put, List.setIfInBounds_toArray, List.set_cons_zero, List.set_cons_succ]
  refine wpAny_take (i := 8) (v := .pointer (some ⟨b, 0, none⟩)) rfl (by kernel_rfl) (by kernel_rfl) (by kernel_rfl) (fun _ _ _ h => h) (Or.inl ⟨by rfl, fun u => by go_simp⟩) ?_
  try simp only [List.getElem_toArray, List.getElem_cons_succ, List.getElem_cons_zero, Act.put, List.setIfInBounds_toArray, List.set_cons_zero, List.set_cons_succ]
  refine wpAny_take (i := 9) (v := .pointer (some ⟨b, 1, none⟩)) rfl (by kernel_rfl) (by kernel_rfl) (by kernel_rfl) (fun _ _ _ h => h) (Or.inl ⟨by rfl, fun u => by go_simp⟩) ?_
  try simp only [List.getElem_toArray, List.getElem_cons_succ, List.getElem_cons_zero, Act.put, List.setIfInBounds_toArray, List.set_cons_zero, List.set_cons_succ]
  have k0 : w.drew.cell? ⟨b, 0, none⟩ = some (.string s) := (HM.out.at i HI.out).row.cell rfl
  have k1 : w.drew.cell? ⟨b, 1, none⟩ = some (.int .i64 p) := (HM.out.at i HI.out).row.cell rfl
  refine Reg.reads (fun i => if i = 6 then (some 18, .string s) else (some 22, .int .i64 p)) (fuel := 12) 2 [6, 10] _ _ rfl (by decide) (by kernel_rfl) (by kernel_rfl) (by kernel_rfl) (fun j hj => ?_) ?_
  · simp only [List.mem_cons, List.not_mem_nil, or_false] at hj
    rcases hj with rfl | rfl
    · exact ⟨_, rfl, rfl, by go_simp⟩
    · exact ⟨_, rfl, rfl, by go_simp⟩
  clear k0 k1
  simp only [List.foldl, Nat.reduceEqDiff, if_true, if_false, Act.put, List.setIfInBounds_toArray, List.set_cons_zero, List.set_cons_succ]
  refine Reg.only (i := 11) rfl rfl (by kernel_rfl) (fun K hK => ?_)
  go_simp
  refine (HR.out _).mono ?_
  rintro e u ⟨ao, c, rfl, ha, hf, hb⟩
  replace HM := Lib.hid (HM.out.next hb)
  replace HB := Lib.hid (HB.out.trans (hb.mono HB.out.size))
  have HA := Lib.hid ha
  have HF := Lib.hid (show ∀ q, ao = some q → w.heap.size ≤ q.block from hf)
  refine hK _ _ ?_
  clear hK K hb HN ha hf
  try simp only [List.getElem_toArray, List.getElem_cons_succ, List.getElem_cons_zero, Act.put, List.setIfInBounds_toArray, List.set_cons_zero, List.set_cons_succ]
  refine wpAny_take (i := 12) (v := .tuple #[.slice ao n c, .int .i64 P, .int .i64 E]) rfl (by kernel_rfl) (by kernel_rfl) (by kernel_rfl) (fun _ _ _ h => h) (Or.inl ⟨by rfl, fun u => by go_simp⟩) ?_
  try simp only [List.getElem_toArray, List.getElem_cons_succ, List.getElem_cons_zero, Act.put, List.setIfInBounds_toArray, List.set_cons_zero, List.set_cons_succ]
  refine wpAny_take (i := 13) (v := .slice ao n c) rfl (by kernel_rfl) (by kernel_rfl) (by kernel_rfl) (fun _ _ _ h => h) (Or.inl ⟨by rfl, fun u => by go_simp⟩) ?_
  try simp only [List.getElem_toArray, List.getElem_cons_succ, List.getElem_cons_zero, Act.put, List.setIfInBounds_toArray, List.set_cons_zero, List.set_cons_succ]
  refine wpAny_take (i := 14) (v := .int .i64 P) rfl (by kernel_rfl) (by kernel_rfl) (by kernel_rfl) (fun _ _ _ h => h) (Or.inl ⟨by rfl, fun u => by go_simp⟩) ?_
  try simp only [List.getElem_toArray, List.getElem_cons_succ, List.getElem_cons_zero, Act.put, List.setIfInBounds_toArray, List.set_cons_zero, List.set_cons_succ]
  refine wpAny_take (i := 15) (v := .int .i64 E) rfl (by kernel_rfl) (by kernel_rfl) (by kernel_rfl) (fun _ _ _ h => h) (Or.inl ⟨by rfl, fun u => by go_simp⟩) ?_
  try simp only [List.getElem_toArray, List.getElem_cons_succ, List.getElem_cons_zero, Act.put, List.setIfInBounds_toArray, List.set_cons_zero, List.set_cons_succ]
  refine wpAny_take (i := 16) (v := .slice ao n c) rfl (by kernel_rfl) (by kernel_rfl) (by kernel_rfl) (fun _ _ _ h => h) (Or.inl ⟨by rfl, fun u => by go_simp⟩) ?_
  try simp only [List.getElem_toArray, List.getElem_cons_succ, List.getElem_cons_zero, Act.put, List.setIfInBounds_toArray, List.set_cons_zero, List.set_cons_succ]
  refine wpAny_take (i := 17) (v := .pointer (some ⟨b, 0, none⟩)) rfl (by kernel_rfl) (by kernel_rfl) (by kernel_rfl) (fun _ _ _ h => h) (Or.inl ⟨by rfl, fun u => by go_simp⟩) ?_
  try simp only [List.getElem_toArray, List.getElem_cons_succ, List.getElem_cons_zero, Act.put, List.setIfInBounds_toArray, List.set_cons_zero, List.set_cons_succ]
  refine wpAny_take (i := 18) (v := .pointer (some ⟨b, 1, none⟩)) rfl (by kernel_rfl) (by kernel_rfl) (by kernel_rfl) (fun _ _ _ h => h) (Or.inl ⟨by rfl, fun u => by go_simp⟩) ?_
  try simp only [List.getElem_toArray, List.getElem_cons_succ, List.getElem_cons_zero, Act.put, List.setIfInBounds_toArray, List.set_cons_zero, List.set_cons_succ]
  refine Reg.only (i := 19) (by simp only [List.getElem?_toArray, List.getElem?_cons_succ, List.getElem?_cons_zero]; rfl) rfl (by kernel_rfl) (fun K hK => ?_)
  refine store_wp HM.out i (c := .int .i64 P) (v' := [.string s, .int .i64 P, .int .i64 0]) rfl rfl rfl HI.out (show (1 : Nat) < 3 from by decide) rfl (Hold.cell_int _ _) cellInt ?_
  intro w2 hw2 hm2
  refine hK _ _ ?_
  clear hK K
  replace HI := Lib.hid (show (m.set i ⟨b, 68, [.string s, .int .i64 P, .int .i64 0]⟩)[i]? = some ⟨b, 68, [.string s, .int .i64 P, .int .i64 0]⟩ from by rw [List.getElem?_set_self HS.out])
  have HM2 := Lib.hid hm2
  have HW2 := Lib.hid hw2
  clear hm2 hw2 HM
  try simp only [List.getElem_toArray, List.getElem_cons_succ, List.getElem_cons_zero, Act.put, List.setIfInBounds_toArray, List.set_cons_zero, List.set_cons_succ]
  refine wpAny_take (i := 20) (v := .pointer (some ⟨b, 0, none⟩)) rfl (by kernel_rfl) (by kernel_rfl) (by kernel_rfl) (fun _ _ _ h => h) (Or.inl ⟨by rfl, fun u => by go_simp⟩) ?_
  try simp only [List.getElem_toArray, List.getElem_cons_succ, List.getElem_cons_zero, Act.put, List.setIfInBounds_toArray, List.set_cons_zero, List.set_cons_succ]
  refine wpAny_take (i := 21) (v := .pointer (some ⟨b, 2, none⟩)) rfl (by kernel_rfl) (by kernel_rfl) (by kernel_rfl) (fun _ _ _ h => h) (Or.inl ⟨by rfl, fun u => by go_simp⟩) ?_
  try simp only [List.getElem_toArray, List.getElem_cons_succ, List.getElem_cons_zero, Act.put, List.setIfInBounds_toArray, List.set_cons_zero, List.set_cons_succ]
  refine Reg.only (i := 22) (by simp only [List.getElem?_toArray, List.getElem?_cons_succ, List.getElem?_cons_zero]; rfl) rfl (by kernel_rfl) (fun K hK => ?_)
  refine store_wp HM2.out i (c := .int .i64 E) (v' := [.string s, .int .i64 P, .int .i64 E]) rfl rfl rfl HI.out (show (2 : Nat) < 3 from by decide) rfl (Hold.cell_int _ _) cellErr ?_
  intro w3 hw3 hm3
  refine hK _ _ ?_
  clear hK K
  rw [List.set_set] at hm3
  have HM3 := Lib.hid hm3
  have HW3 := Lib.hid hw3
  clear hm3 hw3 HM2 HI
  refine wpAny_done (by kernel_rfl) ?_ 0
  go_wp2
  go_ret
  refine ⟨ao, ⟨c, rfl⟩, ?_, HF.out, HM3.out⟩
  have hq : ∀ q, ao = some q → q.block ≠ b := fun q hq => Nat.ne_of_gt (Nat.lt_of_lt_of_le HL.out (HF.out q hq))
  rw [HW3.out, HW2.out]
  exact Hold.strs_sets (Hold.strs_sets HA.out _ _ _ hq) _ _ _ hq

set_option maxHeartbeats 800000 in
theorem nextStrs_stop (s : ByteArray) (p e0 : Int) (kf : Nat) (h0 : e0 ≠ 0) (w0 w : World) (m : List Blk) (i b : Nat) (h : Hld w0 m w) (hi : m[i]? = some ⟨b, 68, [.string s, .int .i64 p, .int .i64 e0]⟩) :
    Calls Tryd.prog 44 #[.pointer (some ⟨b, 0, none⟩), .func (.func kf) #[] #[]] w fun e w' => e = .returned (.slice none 0 0) ∧ w = w' := by
  have HM := Lib.hid h
  have HI := Lib.hid hi
  have hd : (e0 == 0) = false := by simp [h0]
  clear h hi h0
  go_enter Tryd.func44, Tryd.ntmps44
  go_wp2_with ((first
    | (with_reducible refine Hold.load1 HM.out i (c := .int .i64 e0) rfl rfl rfl HI.out rfl (cellErr) ?_)))
  go_ret
  exact ⟨rfl, rfl⟩

end Go.Proofs.YtlinpbmglcjkkaaDoor.Rdr
