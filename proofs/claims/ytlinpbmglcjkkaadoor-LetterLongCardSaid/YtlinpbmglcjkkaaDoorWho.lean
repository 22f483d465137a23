/-
  What was read part by part is answered if there was no error and no bytes are left (whole of package letter, at its types); all memory that was there is left as it was. Conditions: those that each lemma names.
-/
import Derived.Test.YtlinpbmglcjkkaaDoorRdr
namespace Go.Proofs.YtlinpbmglcjkkaaDoor.Rdr
open Go.RowKit Mur Prt Lanes Hold
open RLet (cellInt cellStr cellInts cellStrs)
set_option maxRecDepth 100000
set_option linter.unusedSimpArgs false

section
variable {P : Program} {ops : Array Oper} {rest : List Oper} {op : Oper} {a : Act} {w w0 : World} {m : List Blk} {Q : Exit → Act → World → Prop}
/-- A load of a cell that was there. -/
theorem load_old_run (h : Hld w0 m w) {b o : Nat} {ty : TypeId} {c : Value} {x : Operand} (ho : op.op = .load ty x) (hx : a.eval x = .pointer (some ⟨b, o, none⟩)) (hb : b < w0.heap.size) (hc : w0.cell? ⟨b, o, none⟩ = some c) (hr : TyCell P ty) :
    (execOp a.eval op).run P w = .ok (.value c) w := by
  obtain ⟨d, hu, hd, hs⟩ := hr
  have hcell : w.cell? ⟨b, o, none⟩ = some c := (h.below.cell (p := ⟨b, o, none⟩) hb).trans hc
  have hagg : (isAgg ty).run P w = .ok false w := by
    unfold isAgg
    rw [Sem.run_bind, run_underlying hu w]
    cases d <;> simp_all
  unfold execOp
  simp [ho, hx, Instr.loadAt, Instr.sureAddr, Sem.run_bind, loadVar, hagg, hcell]
theorem load_old (h : Hld w0 m w) {b o : Nat} {ty : TypeId} {c : Value} {x : Operand} (hg : op.guard = none) (ho : op.op = .load ty x) (hx : a.eval x = .pointer (some ⟨b, o, none⟩)) (hb : b < w0.heap.size) (hc : w0.cell? ⟨b, o, none⟩ = some c) (hr : TyCell P ty)
    (hk : wpList P ops Q rest (a.put op.dst c) w) : wpList P ops Q (op :: rest) a w := by
  refine wpList_plain hg fun K hK => ?_
  unfold Oper.wp
  rw [load_old_run h ho hx hb hc hr]
  exact hK _ _ hk
end

def zCast : List Value := [.string ⟨#[]⟩]
theorem zCast_len : zCast.length = 1 := rfl
theorem zCast_one : Hold.Single zCast := by simp [Hold.Single, zCast, Value.oneCell']
theorem zero_zCast : (Tryd.prog.info? 27).map (fun i => (i.zero, i.size)) = some (some (.agg zCast.toArray), zCast.length) := by kernel_rfl
theorem row_zCast : Hold.TyRow Tryd.prog 27 1 := ⟨_, Tryd.underlying27, rfl, by kernel_rfl⟩

set_option maxHeartbeats 1600000 in
theorem wholeCast_any (s : ByteArray) (p e F : Int) (cs Z : List Value) (b : Nat) (w : World) (hb : b < w.heap.size) (c0 : w.cell? ⟨b, 0, none⟩ = some (.string s)) (c1 : w.cell? ⟨b, 1, none⟩ = some (.int .i64 p)) (c2 : w.cell? ⟨b, 2, none⟩ = some (.int .i64 e)) (hl : cs.length = 1) (h1 : Hold.Single cs)
    (hZ : Z = if e = 0 ∧ ¬ p < (s.size : Int) then cs else zCast) (hF : F = if e = 0 then (if p < (s.size : Int) then 3 else 0) else e) :
    Calls Tryd.prog 43 #[.pointer (some ⟨b, 0, none⟩), .agg cs.toArray] w fun o w' => o = .returned (.tuple #[.agg Z.toArray, .int .i64 F]) ∧ Below w.heap.size w w' := by
  have HM := Lib.hid (Hold.Hld.start w)
  have HB := Lib.hid hb
  have HC0 := Lib.hid c0
  have HC1 := Lib.hid c1
  have HC2 := Lib.hid c2
  have HL := Lib.hid hl
  have HS := Lib.hid h1
  clear hb c0 c1 c2 hl h1
  by_cases h : e = 0
  · subst h
    by_cases hp : p < (s.size : Int)
    · obtain rfl : Z = zCast := by rw [hZ, if_neg (fun k => k.2 hp)]
      obtain rfl : F = 3 := by rw [hF, if_pos rfl, if_pos hp]
      have hd : ((0 : Int) != 0) = false := by simp
      have hd2 : decide (p < (s.size : Int)) = true := decide_eq_true hp
      clear hp hZ hF
      go_enter Tryd.func43, Tryd.ntmps43
      go_upto_region 4 with ((first
        | (with_reducible refine Hold.box HM.out rfl rfl rfl ?_; clear HM; intro b0 w HM; simp only [List.nil_append] at HM; replace HM := Lib.hid HM)
        | (with_reducible refine Hold.alloc HM.out rfl rfl zCast zero_zCast ?_; clear HM; intro b1 w HM; simp only [List.nil_append, List.cons_append] at HM; replace HM := Lib.hid HM)
        | (with_reducible refine load_old HM.out (c := .int .i64 0) rfl rfl rfl HB.out HC2.out cellErr ?_)))
      refine Steady.region 10 (by kernel_rfl) (by kernel_rfl) (fun u => Hold.Hld _ _ u) HM.out.drew ?_
      simp only [List.take_succ_cons, List.take_zero, List.drop_succ_cons, List.drop_zero]
      refine Steady.take ?_ rfl (by intro u hu; go_simp; with_reducible rfl) ?_
      simp only [Act.put, List.setIfInBounds_toArray, List.set_cons_zero, List.set_cons_succ]
      refine Steady.take ?_ rfl (by intro u hu; go_simp; with_reducible rfl) ?_
      simp only [Act.put, List.setIfInBounds_toArray, List.set_cons_zero, List.set_cons_succ]
      refine Steady.take ?_ rfl (by intro u hu; go_simp; with_reducible rfl) ?_
      simp only [Act.put, List.setIfInBounds_toArray, List.set_cons_zero, List.set_cons_succ]
      refine Steady.take (.int .i64 p) rfl (fun u hu => load_old_run hu rfl rfl HB.out HC1.out cellInt) ?_
      simp only [Act.put, List.setIfInBounds_toArray, List.set_cons_zero, List.set_cons_succ]
      refine Steady.take ?_ rfl (by intro u hu; go_simp; with_reducible rfl) ?_
      simp only [Act.put, List.setIfInBounds_toArray, List.set_cons_zero, List.set_cons_succ]
      refine Steady.take ?_ rfl (by intro u hu; go_simp; with_reducible rfl) ?_
      simp only [Act.put, List.setIfInBounds_toArray, List.set_cons_zero, List.set_cons_succ]
      refine Steady.take ?_ rfl (by intro u hu; go_simp; with_reducible rfl) ?_
      simp only [Act.put, List.setIfInBounds_toArray, List.set_cons_zero, List.set_cons_succ]
      refine Steady.take (.string s) rfl (fun u hu => load_old_run hu rfl rfl HB.out HC0.out cellStr) ?_
      simp only [Act.put, List.setIfInBounds_toArray, List.set_cons_zero, List.set_cons_succ]
      refine Steady.take ?_ rfl (by intro u hu; go_simp; with_reducible rfl) ?_
      simp only [Act.put, List.setIfInBounds_toArray, List.set_cons_zero, List.set_cons_succ]
      refine Steady.take ?_ rfl (by intro u hu; go_simp; with_reducible rfl) ?_
      simp only [Act.put, List.setIfInBounds_toArray, List.set_cons_zero, List.set_cons_succ]
      refine Steady.nil ?_
      clear HM
      intro w HM
      replace HM := Lib.hid HM
      go_wp2_with ((first
        | (with_reducible refine Hold.load HM.out 2 (cs := zCast) rfl rfl rfl rfl (Hold.Part.all _) (by rw [zCast_len]; exact row_zCast) ?_)
        | (with_reducible refine Hold.store HM.out 1 (v' := zCast) rfl rfl rfl rfl rfl (by rw [Nat.zero_add]; exact Nat.le_refl _) (Hold.lay_all rfl) (zCast_one) (by rw [zCast_len]; exact row_zCast) ?_; clear HM; intro w HM; simp only [List.set_cons_zero, List.set_cons_succ] at HM; replace HM := Lib.hid HM)))
      refine bodyPost_ret (Hold.resultsCT HM.out 1 rfl _ rfl rfl rfl (by rw [zCast_len]; exact row_zCast)) rfl ?_
      exact ⟨rfl, HM.out.below⟩
    · obtain rfl : Z = cs := by rw [hZ, if_pos ⟨rfl, hp⟩]
      obtain rfl : F = 0 := by rw [hF, if_pos rfl, if_neg hp]
      have hd : ((0 : Int) != 0) = false := by simp
      have hd2 : decide (p < (s.size : Int)) = false := decide_eq_false hp
      clear hp hZ hF
      go_enter Tryd.func43, Tryd.ntmps43
      go_upto_region 4 with ((first
        | (with_reducible refine Hold.box HM.out rfl rfl rfl ?_; clear HM; intro b0 w HM; simp only [List.nil_append] at HM; replace HM := Lib.hid HM)
        | (with_reducible refine Hold.alloc HM.out rfl rfl zCast zero_zCast ?_; clear HM; intro b1 w HM; simp only [List.nil_append, List.cons_append] at HM; replace HM := Lib.hid HM)
        | (with_reducible refine load_old HM.out (c := .int .i64 0) rfl rfl rfl HB.out HC2.out cellErr ?_)))
      refine Steady.region 10 (by kernel_rfl) (by kernel_rfl) (fun u => Hold.Hld _ _ u) HM.out.drew ?_
      simp only [List.take_succ_cons, List.take_zero, List.drop_succ_cons, List.drop_zero]
      refine Steady.take ?_ rfl (by intro u hu; go_simp; with_reducible rfl) ?_
      simp only [Act.put, List.setIfInBounds_toArray, List.set_cons_zero, List.set_cons_succ]
      refine Steady.take ?_ rfl (by intro u hu; go_simp; with_reducible rfl) ?_
      simp only [Act.put, List.setIfInBounds_toArray, List.set_cons_zero, List.set_cons_succ]
      refine Steady.take ?_ rfl (by intro u hu; go_simp; with_reducible rfl) ?_
      simp only [Act.put, List.setIfInBounds_toArray, List.set_cons_zero, List.set_cons_succ]
      refine Steady.take (.int .i64 p) rfl (fun u hu => load_old_run hu rfl rfl HB.out HC1.out cellInt) ?_
      simp only [Act.put, List.setIfInBounds_toArray, List.set_cons_zero, List.set_cons_succ]
      refine Steady.take ?_ rfl (by intro u hu; go_simp; with_reducible rfl) ?_
      simp only [Act.put, List.setIfInBounds_toArray, List.set_cons_zero, List.set_cons_succ]
      refine Steady.take ?_ rfl (by intro u hu; go_simp; with_reducible rfl) ?_
      simp only [Act.put, List.setIfInBounds_toArray, List.set_cons_zero, List.set_cons_succ]
      refine Steady.take ?_ rfl (by intro u hu; go_simp; with_reducible rfl) ?_
      simp only [Act.put, List.setIfInBounds_toArray, List.set_cons_zero, List.set_cons_succ]
      refine Steady.take (.string s) rfl (fun u hu => load_old_run hu rfl rfl HB.out HC0.out cellStr) ?_
      simp only [Act.put, List.setIfInBounds_toArray, List.set_cons_zero, List.set_cons_succ]
      refine Steady.take ?_ rfl (by intro u hu; go_simp; with_reducible rfl) ?_
      simp only [Act.put, List.setIfInBounds_toArray, List.set_cons_zero, List.set_cons_succ]
      refine Steady.take ?_ rfl (by intro u hu; go_simp; with_reducible rfl) ?_
      simp only [Act.put, List.setIfInBounds_toArray, List.set_cons_zero, List.set_cons_succ]
      refine Steady.nil ?_
      clear HM
      intro w HM
      replace HM := Lib.hid HM
      go_wp2_with ((first
        | (with_reducible refine Hold.load HM.out 0 (cs := Z) rfl rfl rfl rfl (Hold.Part.all _) (by rw [HL.out]; exact row_zCast) ?_)
        | (with_reducible refine Hold.store HM.out 1 (v' := Z) rfl rfl rfl rfl rfl (by rw [HL.out, zCast_len]; exact Nat.le_refl _) (Hold.lay_all (by rw [HL.out, zCast_len])) (HS.out) (by rw [HL.out]; exact row_zCast) ?_; clear HM; intro w HM; simp only [List.set_cons_zero, List.set_cons_succ] at HM; replace HM := Lib.hid HM)))
      refine bodyPost_ret (Hold.resultsCT HM.out 1 rfl _ rfl rfl rfl (by rw [HL.out]; exact row_zCast)) rfl ?_
      exact ⟨rfl, HM.out.below⟩
  · obtain rfl : Z = zCast := by rw [hZ, if_neg (fun k => h k.1)]
    obtain rfl : F = e := by rw [hF, if_neg h]
    have hd : (F != 0) = true := by simp [h]
    clear h hZ hF
    go_enter Tryd.func43, Tryd.ntmps43
    go_upto_region 3 with ((first
      | (with_reducible refine Hold.box HM.out rfl rfl rfl ?_; clear HM; intro b0 w HM; simp only [List.nil_append] at HM; replace HM := Lib.hid HM)
      | (with_reducible refine Hold.alloc HM.out rfl rfl zCast zero_zCast ?_; clear HM; intro b1 w HM; simp only [List.nil_append, List.cons_append] at HM; replace HM := Lib.hid HM)
      | (with_reducible refine load_old HM.out (c := .int .i64 F) rfl rfl rfl HB.out HC2.out cellErr ?_)))
    replace HM := Lib.hid HM.out.drew
    refine wp_region_held (S := fun u => Hold.Hld _ _ u) (by kernel_rfl) (wpAnyH_take (i := 1) (by simp only [List.getElem?_toArray, List.getElem?_cons_succ, List.getElem?_cons_zero]; rfl) (by kernel_rfl) (by as_aux_lemma => kernel_rfl) (by as_aux_lemma => kernel_rfl) (fun _ _ _ h => by exact h) (.inl ⟨rfl, fun u hu => by go_simp; with_reducible rfl⟩) HM.out ?_)
    try simp only [List.getElem_toArray, List.getElem_cons_succ, List.getElem_cons_zero, Act.put, List.setIfInBounds_toArray, List.set_cons_zero, List.set_cons_succ]
    refine wpAnyH_take (i := 2) (by simp only [List.getElem?_toArray, List.getElem?_cons_succ, List.getElem?_cons_zero]; rfl) (by kernel_rfl) (by as_aux_lemma => kernel_rfl) (by as_aux_lemma => kernel_rfl) (fun _ _ _ h => by exact h) (.inl ⟨rfl, fun u hu => by go_simp; with_reducible rfl⟩) HM.out ?_
    try simp only [List.getElem_toArray, List.getElem_cons_succ, List.getElem_cons_zero, Act.put, List.setIfInBounds_toArray, List.set_cons_zero, List.set_cons_succ]
    refine wpAnyH_take (i := 3) (by simp only [List.getElem?_toArray, List.getElem?_cons_succ, List.getElem?_cons_zero]; rfl) (by kernel_rfl) (by as_aux_lemma => kernel_rfl) (by as_aux_lemma => kernel_rfl) (fun _ _ _ h => by exact h) (.inl ⟨rfl, fun u hu => by go_simp; with_reducible rfl⟩) HM.out ?_
    try simp only [List.getElem_toArray, List.getElem_cons_succ, List.getElem_cons_zero, Act.put, List.setIfInBounds_toArray, List.set_cons_zero, List.set_cons_succ]
    refine wpAnyH_take (i := 4) (by simp only [List.getElem?_toArray, List.getElem?_cons_succ, List.getElem?_cons_zero]; rfl) (by kernel_rfl) (by as_aux_lemma => kernel_rfl) (by as_aux_lemma => kernel_rfl) (fun _ _ _ h => by exact h) (.inl ⟨rfl, fun u hu => load_old_run hu rfl rfl HB.out HC2.out cellErr⟩) HM.out ?_
    try simp only [List.getElem_toArray, List.getElem_cons_succ, List.getElem_cons_zero, Act.put, List.setIfInBounds_toArray, List.set_cons_zero, List.set_cons_succ]
    refine wpAnyH_take (i := 0) (by simp only [List.getElem?_toArray, List.getElem?_cons_succ, List.getElem?_cons_zero]; rfl) (by kernel_rfl) (by as_aux_lemma => kernel_rfl) (by as_aux_lemma => kernel_rfl) (fun _ _ _ h => by exact h) (.inl ⟨rfl, fun u hu => Hold.load_run hu 2 rfl rfl rfl (Hold.Part.all _) (by rw [zCast_len]; exact row_zCast)⟩) HM.out ?_
    try simp only [List.getElem_toArray, List.getElem_cons_succ, List.getElem_cons_zero, Act.put, List.setIfInBounds_toArray, List.set_cons_zero, List.set_cons_succ]
    refine wpAnyH_all (rs := [5]) (by kernel_rfl) (by simp) (fun j hj => ?_)
    obtain rfl : j = 5 := by simpa using hj
    refine Hold.op_store HM.out (by simp only [List.getElem?_toArray, List.getElem?_cons_succ, List.getElem?_cons_zero]; rfl) rfl rfl rfl rfl (k := 1) (v' := zCast) rfl (by rw [Nat.zero_add]; exact Nat.le_refl _) (Hold.lay_all rfl) zCast_one (by rw [zCast_len]; exact row_zCast) (fun w5 hm => ⟨hm, ?_⟩)
    clear HM
    have HM := Lib.hid hm
    clear hm
    try simp only [List.getElem_toArray, List.getElem_cons_succ, List.getElem_cons_zero, Act.put, List.setIfInBounds_toArray, List.set_cons_zero, List.set_cons_succ]
    refine wpAnyH_take (i := 6) (by simp only [List.getElem?_toArray, List.getElem?_cons_succ, List.getElem?_cons_zero]; rfl) (by kernel_rfl) (by as_aux_lemma => kernel_rfl) (by as_aux_lemma => kernel_rfl) (fun _ _ _ h => by exact h) (.inl ⟨rfl, fun u hu => by go_simp; with_reducible rfl⟩) HM.out ?_
    try simp only [List.getElem_toArray, List.getElem_cons_succ, List.getElem_cons_zero, Act.put, List.setIfInBounds_toArray, List.set_cons_zero, List.set_cons_succ]
    refine wpAnyH_done (by kernel_rfl) ?_ 0
    go_wp2
    refine bodyPost_ret (Hold.resultsCT HM.out 1 rfl _ rfl rfl rfl (by rw [zCast_len]; exact row_zCast)) rfl ?_
    exact ⟨rfl, HM.out.below⟩

def zListing : List Value := [.slice none 0 0, .int .i64 0]
theorem zListing_len : zListing.length = 2 := rfl
theorem zListing_one : Hold.Single zListing := by simp [Hold.Single, zListing, Value.oneCell']
theorem zero_zListing : (Tryd.prog.info? 29).map (fun i => (i.zero, i.size)) = some (some (.agg zListing.toArray), zListing.length) := by kernel_rfl
theorem row_zListing : Hold.TyRow Tryd.prog 29 2 := ⟨_, Tryd.underlying29, rfl, by kernel_rfl⟩

set_option maxHeartbeats 1600000 in
theorem wholeListing_any (s : ByteArray) (p e F : Int) (cs Z : List Value) (b : Nat) (w : World) (hb : b < w.heap.size) (c0 : w.cell? ⟨b, 0, none⟩ = some (.string s)) (c1 : w.cell? ⟨b, 1, none⟩ = some (.int .i64 p)) (c2 : w.cell? ⟨b, 2, none⟩ = some (.int .i64 e)) (hl : cs.length = 2) (h1 : Hold.Single cs)
    (hZ : Z = if e = 0 ∧ ¬ p < (s.size : Int) then cs else zListing) (hF : F = if e = 0 then (if p < (s.size : Int) then 3 else 0) else e) :
    Calls Tryd.prog 24 #[.pointer (some ⟨b, 0, none⟩), .agg cs.toArray] w fun o w' => o = .returned (.tuple #[.agg Z.toArray, .int .i64 F]) ∧ Below w.heap.size w w' := by
  have HM := Lib.hid (Hold.Hld.start w)
  have HB := Lib.hid hb
  have HC0 := Lib.hid c0
  have HC1 := Lib.hid c1
  have HC2 := Lib.hid c2
  have HL := Lib.hid hl
  have HS := Lib.hid h1
  clear hb c0 c1 c2 hl h1
  by_cases h : e = 0
  · subst h
    by_cases hp : p < (s.size : Int)
    · obtain rfl : Z = zListing := by rw [hZ, if_neg (fun k => k.2 hp)]
      obtain rfl : F = 3 := by rw [hF, if_pos rfl, if_pos hp]
      have hd : ((0 : Int) != 0) = false := by simp
      have hd2 : decide (p < (s.size : Int)) = true := decide_eq_true hp
      clear hp hZ hF
      go_enter Tryd.func24, Tryd.ntmps24
      go_upto_region 4 with ((first
        | (with_reducible refine Hold.box HM.out rfl rfl rfl ?_; clear HM; intro b0 w HM; simp only [List.nil_append] at HM; replace HM := Lib.hid HM)
        | (with_reducible refine Hold.alloc HM.out rfl rfl zListing zero_zListing ?_; clear HM; intro b1 w HM; simp only [List.nil_append, List.cons_append] at HM; replace HM := Lib.hid HM)
        | (with_reducible refine load_old HM.out (c := .int .i64 0) rfl rfl rfl HB.out HC2.out cellErr ?_)))
      refine Steady.region 10 (by kernel_rfl) (by kernel_rfl) (fun u => Hold.Hld _ _ u) HM.out.drew ?_
      simp only [List.take_succ_cons, List.take_zero, List.drop_succ_cons, List.drop_zero]
      refine Steady.take ?_ rfl (by intro u hu; go_simp; with_reducible rfl) ?_
      simp only [Act.put, List.setIfInBounds_toArray, List.set_cons_zero, List.set_cons_succ]
      refine Steady.take ?_ rfl (by intro u hu; go_simp; with_reducible rfl) ?_
      simp only [Act.put, List.setIfInBounds_toArray, List.set_cons_zero, List.set_cons_succ]
      refine Steady.take ?_ rfl (by intro u hu; go_simp; with_reducible rfl) ?_
      simp only [Act.put, List.setIfInBounds_toArray, List.set_cons_zero, List.set_cons_succ]
      refine Steady.take (.int .i64 p) rfl (fun u hu => load_old_run hu rfl rfl HB.out HC1.out cellInt) ?_
      simp only [Act.put, List.setIfInBounds_toArray, List.set_cons_zero, List.set_cons_succ]
      refine Steady.take ?_ rfl (by intro u hu; go_simp; with_reducible rfl) ?_
      simp only [Act.put, List.setIfInBounds_toArray, List.set_cons_zero, List.set_cons_succ]
      refine Steady.take ?_ rfl (by intro u hu; go_simp; with_reducible rfl) ?_
      simp only [Act.put, List.setIfInBounds_toArray, List.set_cons_zero, List.set_cons_succ]
      refine Steady.take ?_ rfl (by intro u hu; go_simp; with_reducible rfl) ?_
      simp only [Act.put, List.setIfInBounds_toArray, List.set_cons_zero, List.set_cons_succ]
      refine Steady.take (.string s) rfl (fun u hu => load_old_run hu rfl rfl HB.out HC0.out cellStr) ?_
      simp only [Act.put, List.setIfInBounds_toArray, List.set_cons_zero, List.set_cons_succ]
      refine Steady.take ?_ rfl (by intro u hu; go_simp; with_reducible rfl) ?_
      simp only [Act.put, List.setIfInBounds_toArray, List.set_cons_zero, List.set_cons_succ]
      refine Steady.take ?_ rfl (by intro u hu; go_simp; with_reducible rfl) ?_
      simp only [Act.put, List.setIfInBounds_toArray, List.set_cons_zero, List.set_cons_succ]
      refine Steady.nil ?_
      clear HM
      intro w HM
      replace HM := Lib.hid HM
      go_wp2_with ((first
        | (with_reducible refine Hold.load HM.out 2 (cs := zListing) rfl rfl rfl rfl (Hold.Part.all _) (by rw [zListing_len]; exact row_zListing) ?_)
        | (with_reducible refine Hold.store HM.out 1 (v' := zListing) rfl rfl rfl rfl rfl (by rw [Nat.zero_add]; exact Nat.le_refl _) (Hold.lay_all rfl) (zListing_one) (by rw [zListing_len]; exact row_zListing) ?_; clear HM; intro w HM; simp only [List.set_cons_zero, List.set_cons_succ] at HM; replace HM := Lib.hid HM)))
      refine bodyPost_ret (Hold.resultsCT HM.out 1 rfl _ rfl rfl rfl (by rw [zListing_len]; exact row_zListing)) rfl ?_
      exact ⟨rfl, HM.out.below⟩
    · obtain rfl : Z = cs := by rw [hZ, if_pos ⟨rfl, hp⟩]
      obtain rfl : F = 0 := by rw [hF, if_pos rfl, if_neg hp]
      have hd : ((0 : Int) != 0) = false := by simp
      have hd2 : decide (p < (s.size : Int)) = false := decide_eq_false hp
      clear hp hZ hF
      go_enter Tryd.func24, Tryd.ntmps24
      go_upto_region 4 with ((first
        | (with_reducible refine Hold.box HM.out rfl rfl rfl ?_; clear HM; intro b0 w HM; simp only [List.nil_append] at HM; replace HM := Lib.hid HM)
        | (with_reducible refine Hold.alloc HM.out rfl rfl zListing zero_zListing ?_; clear HM; intro b1 w HM; simp only [List.nil_append, List.cons_append] at HM; replace HM := Lib.hid HM)
        | (with_reducible refine load_old HM.out (c := .int .i64 0) rfl rfl rfl HB.out HC2.out cellErr ?_)))
      refine Steady.region 10 (by kernel_rfl) (by kernel_rfl) (fun u => Hold.Hld _ _ u) HM.out.drew ?_
      simp only [List.take_succ_cons, List.take_zero, List.drop_succ_cons, List.drop_zero]
      refine Steady.take ?_ rfl (by intro u hu; go_simp; with_reducible rfl) ?_
      simp only [Act.put, List.setIfInBounds_toArray, List.set_cons_zero, List.set_cons_succ]
      refine Steady.take ?_ rfl (by intro u hu; go_simp; with_reducible rfl) ?_
      simp only [Act.put, List.setIfInBounds_toArray, List.set_cons_zero, List.set_cons_succ]
      refine Steady.take ?_ rfl (by intro u hu; go_simp; with_reducible rfl) ?_
      simp only [Act.put, List.setIfInBounds_toArray, List.set_cons_zero, List.set_cons_succ]
      refine Steady.take (.int .i64 p) rfl (fun u hu => load_old_run hu rfl rfl HB.out HC1.out cellInt) ?_
      simp only [Act.put, List.setIfInBounds_toArray, List.set_cons_zero, List.set_cons_succ]
      refine Steady.take ?_ rfl (by intro u hu; go_simp; with_reducible rfl) ?_
      simp only [Act.put, List.setIfInBounds_toArray, List.set_cons_zero, List.set_cons_succ]
      refine Steady.take ?_ rfl (by intro u hu; go_simp; with_reducible rfl) ?_
      simp only [Act.put, List.setIfInBounds_toArray, List.set_cons_zero, List.set_cons_succ]
      refine Steady.take ?_ rfl (by intro u hu; go_simp; with_reducible rfl) ?_
      simp only [Act.put, List.setIfInBounds_toArray, List.set_cons_zero, List.set_cons_succ]
      refine Steady.take (.string s) rfl (fun u hu => load_old_run hu rfl rfl HB.out HC0.out cellStr) ?_
      simp only [Act.put, List.setIfInBounds_toArray, List.set_cons_zero, List.set_cons_succ]
      refine Steady.take ?_ rfl (by intro u hu; go_simp; with_reducible rfl) ?_
      simp only [Act.put, List.setIfInBounds_toArray, List.set_cons_zero, List.set_cons_succ]
      refine Steady.take ?_ rfl (by intro u hu; go_simp; with_reducible rfl) ?_
      simp only [Act.put, List.setIfInBounds_toArray, List.set_cons_zero, List.set_cons_succ]
      refine Steady.nil ?_
      clear HM
      intro w HM
      replace HM := Lib.hid HM
      go_wp2_with ((first
        | (with_reducible refine Hold.load HM.out 0 (cs := Z) rfl rfl rfl rfl (Hold.Part.all _) (by rw [HL.out]; exact row_zListing) ?_)
        | (with_reducible refine Hold.store HM.out 1 (v' := Z) rfl rfl rfl rfl rfl (by rw [HL.out, zListing_len]; exact Nat.le_refl _) (Hold.lay_all (by rw [HL.out, zListing_len])) (HS.out) (by rw [HL.out]; exact row_zListing) ?_; clear HM; intro w HM; simp only [List.set_cons_zero, List.set_cons_succ] at HM; replace HM := Lib.hid HM)))
      refine bodyPost_ret (Hold.resultsCT HM.out 1 rfl _ rfl rfl rfl (by rw [HL.out]; exact row_zListing)) rfl ?_
      exact ⟨rfl, HM.out.below⟩
  · obtain rfl : Z = zListing := by rw [hZ, if_neg (fun k => h k.1)]
    obtain rfl : F = e := by rw [hF, if_neg h]
    have hd : (F != 0) = true := by simp [h]
    clear h hZ hF
    go_enter Tryd.func24, Tryd.ntmps24
    go_upto_region 3 with ((first
      | (with_reducible refine Hold.box HM.out rfl rfl rfl ?_; clear HM; intro b0 w HM; simp only [List.nil_append] at HM; replace HM := Lib.hid HM)
      | (with_reducible refine Hold.alloc HM.out rfl rfl zListing zero_zListing ?_; clear HM; intro b1 w HM; simp only [List.nil_append, List.cons_append] at HM; replace HM := Lib.hid HM)
      | (with_reducible refine load_old HM.out (c := .int .i64 F) rfl rfl rfl HB.out HC2.out cellErr ?_)))
    replace HM := Lib.hid HM.out.drew
    refine wp_region_held (S := fun u => Hold.Hld _ _ u) (by kernel_rfl) (wpAnyH_take (i := 1) (by simp only [List.getElem?_toArray, List.getElem?_cons_succ, List.getElem?_cons_zero]; rfl) (by kernel_rfl) (by as_aux_lemma => kernel_rfl) (by as_aux_lemma => kernel_rfl) (fun _ _ _ h => by exact h) (.inl ⟨rfl, fun u hu => by go_simp; with_reducible rfl⟩) HM.out ?_)
    try simp only [List.getElem_toArray, List.getElem_cons_succ, List.getElem_cons_zero, Act.put, List.setIfInBounds_toArray, List.set_cons_zero, List.set_cons_succ]
    refine wpAnyH_take (i := 2) (by simp only [List.getElem?_toArray, List.getElem?_cons_succ, List.getElem?_cons_zero]; rfl) (by kernel_rfl) (by as_aux_lemma => kernel_rfl) (by as_aux_lemma => kernel_rfl) (fun _ _ _ h => by exact h) (.inl ⟨rfl, fun u hu => by go_simp; with_reducible rfl⟩) HM.out ?_
    try simp only [List.getElem_toArray, List.getElem_cons_succ, List.getElem_cons_zero, Act.put, List.setIfInBounds_toArray, List.set_cons_zero, List.set_cons_succ]
    refine wpAnyH_take (i := 3) (by simp only [List.getElem?_toArray, List.getElem?_cons_succ, List.getElem?_cons_zero]; rfl) (by kernel_rfl) (by as_aux_lemma => kernel_rfl) (by as_aux_lemma => kernel_rfl) (fun _ _ _ h => by exact h) (.inl ⟨rfl, fun u hu => by go_simp; with_reducible rfl⟩) HM.out ?_
    try simp only [List.getElem_toArray, List.getElem_cons_succ, List.getElem_cons_zero, Act.put, List.setIfInBounds_toArray, List.set_cons_zero, List.set_cons_succ]
    refine wpAnyH_take (i := 4) (by simp only [List.getElem?_toArray, List.getElem?_cons_succ, List.getElem?_cons_zero]; rfl) (by kernel_rfl) (by as_aux_lemma => kernel_rfl) (by as_aux_lemma => kernel_rfl) (fun _ _ _ h => by exact h) (.inl ⟨rfl, fun u hu => load_old_run hu rfl rfl HB.out HC2.out cellErr⟩) HM.out ?_
    try simp only [List.getElem_toArray, List.getElem_cons_succ, List.getElem_cons_zero, Act.put, List.setIfInBounds_toArray, List.set_cons_zero, List.set_cons_succ]
    refine wpAnyH_take (i := 0) (by simp only [List.getElem?_toArray, List.getElem?_cons_succ, List.getElem?_cons_zero]; rfl) (by kernel_rfl) (by as_aux_lemma => kernel_rfl) (by as_aux_lemma => kernel_rfl) (fun _ _ _ h => by exact h) (.inl ⟨rfl, fun u hu => Hold.load_run hu 2 rfl rfl rfl (Hold.Part.all _) (by rw [zListing_len]; exact row_zListing)⟩) HM.out ?_
    try simp only [List.getElem_toArray, List.getElem_cons_succ, List.getElem_cons_zero, Act.put, List.setIfInBounds_toArray, List.set_cons_zero, List.set_cons_succ]
    refine wpAnyH_all (rs := [5]) (by kernel_rfl) (by simp) (fun j hj => ?_)
    obtain rfl : j = 5 := by simpa using hj
    refine Hold.op_store HM.out (by simp only [List.getElem?_toArray, List.getElem?_cons_succ, List.getElem?_cons_zero]; rfl) rfl rfl rfl rfl (k := 1) (v' := zListing) rfl (by rw [Nat.zero_add]; exact Nat.le_refl _) (Hold.lay_all rfl) zListing_one (by rw [zListing_len]; exact row_zListing) (fun w5 hm => ⟨hm, ?_⟩)
    clear HM
    have HM := Lib.hid hm
    clear hm
    try simp only [List.getElem_toArray, List.getElem_cons_succ, List.getElem_cons_zero, Act.put, List.setIfInBounds_toArray, List.set_cons_zero, List.set_cons_succ]
    refine wpAnyH_take (i := 6) (by simp only [List.getElem?_toArray, List.getElem?_cons_succ, List.getElem?_cons_zero]; rfl) (by kernel_rfl) (by as_aux_lemma => kernel_rfl) (by as_aux_lemma => kernel_rfl) (fun _ _ _ h => by exact h) (.inl ⟨rfl, fun u hu => by go_simp; with_reducible rfl⟩) HM.out ?_
    try simp only [List.getElem_toArray, List.getElem_cons_succ, List.getElem_cons_zero, Act.put, List.setIfInBounds_toArray, List.set_cons_zero, List.set_cons_succ]
    refine wpAnyH_done (by kernel_rfl) ?_ 0
    go_wp2
    refine bodyPost_ret (Hold.resultsCT HM.out 1 rfl _ rfl rfl rfl (by rw [zListing_len]; exact row_zListing)) rfl ?_
    exact ⟨rfl, HM.out.below⟩

def zShare : List Value := [.string ⟨#[]⟩, .slice none 0 0]
theorem zShare_len : zShare.length = 2 := rfl
theorem zShare_one : Hold.Single zShare := by simp [Hold.Single, zShare, Value.oneCell']
theorem zero_zShare : (Tryd.prog.info? 33).map (fun i => (i.zero, i.size)) = some (some (.agg zShare.toArray), zShare.length) := by kernel_rfl
theorem row_zShare : Hold.TyRow Tryd.prog 33 2 := ⟨_, Tryd.underlying33, rfl, by kernel_rfl⟩

set_option maxHeartbeats 1600000 in
theorem wholeShare_any (s : ByteArray) (p e F : Int) (cs Z : List Value) (b : Nat) (w : World) (hb : b < w.heap.size) (c0 : w.cell? ⟨b, 0, none⟩ = some (.string s)) (c1 : w.cell? ⟨b, 1, none⟩ = some (.int .i64 p)) (c2 : w.cell? ⟨b, 2, none⟩ = some (.int .i64 e)) (hl : cs.length = 2) (h1 : Hold.Single cs)
    (hZ : Z = if e = 0 ∧ ¬ p < (s.size : Int) then cs else zShare) (hF : F = if e = 0 then (if p < (s.size : Int) then 3 else 0) else e) :
    Calls Tryd.prog 46 #[.pointer (some ⟨b, 0, none⟩), .agg cs.toArray] w fun o w' => o = .returned (.tuple #[.agg Z.toArray, .int .i64 F]) ∧ Below w.heap.size w w' := by
  have HM := Lib.hid (Hold.Hld.start w)
  have HB := Lib.hid hb
  have HC0 := Lib.hid c0
  have HC1 := Lib.hid c1
  have HC2 := Lib.hid c2
  have HL := Lib.hid hl
  have HS := Lib.hid h1
  clear hb c0 c1 c2 hl h1
  by_cases h : e = 0
  · subst h
    by_cases hp : p < (s.size : Int)
    · obtain rfl : Z = zShare := by rw [hZ, if_neg (fun k => k.2 hp)]
      obtain rfl : F = 3 := by rw [hF, if_pos rfl, if_pos hp]
      have hd : ((0 : Int) != 0) = false := by simp
      have hd2 : decide (p < (s.size : Int)) = true := decide_eq_true hp
      clear hp hZ hF
      go_enter Tryd.func46, Tryd.ntmps46
      go_upto_region 4 with ((first
        | (with_reducible refine Hold.box HM.out rfl rfl rfl ?_; clear HM; intro b0 w HM; simp only [List.nil_append] at HM; replace HM := Lib.hid HM)
        | (with_reducible refine Hold.alloc HM.out rfl rfl zShare zero_zShare ?_; clear HM; intro b1 w HM; simp only [List.nil_append, List.cons_append] at HM; replace HM := Lib.hid HM)
        | (with_reducible refine load_old HM.out (c := .int .i64 0) rfl rfl rfl HB.out HC2.out cellErr ?_)))
      refine Steady.region 10 (by kernel_rfl) (by kernel_rfl) (fun u => Hold.Hld _ _ u) HM.out.drew ?_
      simp only [List.take_succ_cons, List.take_zero, List.drop_succ_cons, List.drop_zero]
      refine Steady.take ?_ rfl (by intro u hu; go_simp; with_reducible rfl) ?_
      simp only [Act.put, List.setIfInBounds_toArray, List.set_cons_zero, List.set_cons_succ]
      refine Steady.take ?_ rfl (by intro u hu; go_simp; with_reducible rfl) ?_
      simp only [Act.put, List.setIfInBounds_toArray, List.set_cons_zero, List.set_cons_succ]
      refine Steady.take ?_ rfl (by intro u hu; go_simp; with_reducible rfl) ?_
      simp only [Act.put, List.setIfInBounds_toArray, List.set_cons_zero, List.set_cons_succ]
      refine Steady.take (.int .i64 p) rfl (fun u hu => load_old_run hu rfl rfl HB.out HC1.out cellInt) ?_
      simp only [Act.put, List.setIfInBounds_toArray, List.set_cons_zero, List.set_cons_succ]
      refine Steady.take ?_ rfl (by intro u hu; go_simp; with_reducible rfl) ?_
      simp only [Act.put, List.setIfInBounds_toArray, List.set_cons_zero, List.set_cons_succ]
      refine Steady.take ?_ rfl (by intro u hu; go_simp; with_reducible rfl) ?_
      simp only [Act.put, List.setIfInBounds_toArray, List.set_cons_zero, List.set_cons_succ]
      refine Steady.take ?_ rfl (by intro u hu; go_simp; with_reducible rfl) ?_
      simp only [Act.put, List.setIfInBounds_toArray, List.set_cons_zero, List.set_cons_succ]
      refine Steady.take (.string s) rfl (fun u hu => load_old_run hu rfl rfl HB.out HC0.out cellStr) ?_
      simp only [Act.put, List.setIfInBounds_toArray, List.set_cons_zero, List.set_cons_succ]
      refine Steady.take ?_ rfl (by intro u hu; go_simp; with_reducible rfl) ?_
      simp only [Act.put, List.setIfInBounds_toArray, List.set_cons_zero, List.set_cons_succ]
      refine Steady.take ?_ rfl (by intro u hu; go_simp; with_reducible rfl) ?_
      simp only [Act.put, List.setIfInBounds_toArray, List.set_cons_zero, List.set_cons_succ]
      refine Steady.nil ?_
      clear HM
      intro w HM
      replace HM := Lib.hid HM
      go_wp2_with ((first
        | (with_reducible refine Hold.load HM.out 2 (cs := zShare) rfl rfl rfl rfl (Hold.Part.all _) (by rw [zShare_len]; exact row_zShare) ?_)
        | (with_reducible refine Hold.store HM.out 1 (v' := zShare) rfl rfl rfl rfl rfl (by rw [Nat.zero_add]; exact Nat.le_refl _) (Hold.lay_all rfl) (zShare_one) (by rw [zShare_len]; exact row_zShare) ?_; clear HM; intro w HM; simp only [List.set_cons_zero, List.set_cons_succ] at HM; replace HM := Lib.hid HM)))
      refine bodyPost_ret (Hold.resultsCT HM.out 1 rfl _ rfl rfl rfl (by rw [zShare_len]; exact row_zShare)) rfl ?_
      exact ⟨rfl, HM.out.below⟩
    · obtain rfl : Z = cs := by rw [hZ, if_pos ⟨rfl, hp⟩]
      obtain rfl : F = 0 := by rw [hF, if_pos rfl, if_neg hp]
      have hd : ((0 : Int) != 0) = false := by simp
      have hd2 : decide (p < (s.size : Int)) = false := decide_eq_false hp
      clear hp hZ hF
      go_enter Tryd.func46, Tryd.ntmps46
      go_upto_region 4 with ((first
        | (with_reducible refine Hold.box HM.out rfl rfl rfl ?_; clear HM; intro b0 w HM; simp only [List.nil_append] at HM; replace HM := Lib.hid HM)
        | (with_reducible refine Hold.alloc HM.out rfl rfl zShare zero_zShare ?_; clear HM; intro b1 w HM; simp only [List.nil_append, List.cons_append] at HM; replace HM := Lib.hid HM)
        | (with_reducible refine load_old HM.out (c := .int .i64 0) rfl rfl rfl HB.out HC2.out cellErr ?_)))
      refine Steady.region 10 (by kernel_rfl) (by kernel_rfl) (fun u => Hold.Hld _ _ u) HM.out.drew ?_
      simp only [List.take_succ_cons, List.take_zero, List.drop_succ_cons, List.drop_zero]
      refine Steady.take ?_ rfl (by intro u hu; go_simp; with_reducible rfl) ?_
      simp only [Act.put, List.setIfInBounds_toArray, List.set_cons_zero, List.set_cons_succ]
      refine Steady.take ?_ rfl (by intro u hu; go_simp; with_reducible rfl) ?_
      simp only [Act.put, List.setIfInBounds_toArray, List.set_cons_zero, List.set_cons_succ]
      refine Steady.take ?_ rfl (by intro u hu; go_simp; with_reducible rfl) ?_
      simp only [Act.put, List.setIfInBounds_toArray, List.set_cons_zero, List.set_cons_succ]
      refine Steady.take (.int .i64 p) rfl (fun u hu => load_old_run hu rfl rfl HB.out HC1.out cellInt) ?_
      simp only [Act.put, List.setIfInBounds_toArray, List.set_cons_zero, List.set_cons_succ]
      refine Steady.take ?_ rfl (by intro u hu; go_simp; with_reducible rfl) ?_
      simp only [Act.put, List.setIfInBounds_toArray, List.set_cons_zero, List.set_cons_succ]
      refine Steady.take ?_ rfl (by intro u hu; go_simp; with_reducible rfl) ?_
      simp only [Act.put, List.setIfInBounds_toArray, List.set_cons_zero, List.set_cons_succ]
      refine Steady.take ?_ rfl (by intro u hu; go_simp; with_reducible rfl) ?_
      simp only [Act.put, List.setIfInBounds_toArray, List.set_cons_zero, List.set_cons_succ]
      refine Steady.take (.string s) rfl (fun u hu => load_old_run hu rfl rfl HB.out HC0.out cellStr) ?_
      simp only [Act.put, List.setIfInBounds_toArray, List.set_cons_zero, List.set_cons_succ]
      refine Steady.take ?_ rfl (by intro u hu; go_simp; with_reducible rfl) ?_
      simp only [Act.put, List.setIfInBounds_toArray, List.set_cons_zero, List.set_cons_succ]
      refine Steady.take ?_ rfl (by intro u hu; go_simp; with_reducible rfl) ?_
      simp only [Act.put, List.setIfInBounds_toArray, List.set_cons_zero, List.set_cons_succ]
      refine Steady.nil ?_
      clear HM
      intro w HM
      replace HM := Lib.hid HM
      go_wp2_with ((first
        | (with_reducible refine Hold.load HM.out 0 (cs := Z) rfl rfl rfl rfl (Hold.Part.all _) (by rw [HL.out]; exact row_zShare) ?_)
        | (with_reducible refine Hold.store HM.out 1 (v' := Z) rfl rfl rfl rfl rfl (by rw [HL.out, zShare_len]; exact Nat.le_refl _) (Hold.lay_all (by rw [HL.out, zShare_len])) (HS.out) (by rw [HL.out]; exact row_zShare) ?_; clear HM; intro w HM; simp only [List.set_cons_zero, List.set_cons_succ] at HM; replace HM := Lib.hid HM)))
      refine bodyPost_ret (Hold.resultsCT HM.out 1 rfl _ rfl rfl rfl (by rw [HL.out]; exact row_zShare)) rfl ?_
      exact ⟨rfl, HM.out.below⟩
  · obtain rfl : Z = zShare := by rw [hZ, if_neg (fun k => h k.1)]
    obtain rfl : F = e := by rw [hF, if_neg h]
    have hd : (F != 0) = true := by simp [h]
    clear h hZ hF
    go_enter Tryd.func46, Tryd.ntmps46
    go_upto_region 3 with ((first
      | (with_reducible refine Hold.box HM.out rfl rfl rfl ?_; clear HM; intro b0 w HM; simp only [List.nil_append] at HM; replace HM := Lib.hid HM)
      | (with_reducible refine Hold.alloc HM.out rfl rfl zShare zero_zShare ?_; clear HM; intro b1 w HM; simp only [List.nil_append, List.cons_append] at HM; replace HM := Lib.hid HM)
      | (with_reducible refine load_old HM.out (c := .int .i64 F) rfl rfl rfl HB.out HC2.out cellErr ?_)))
    replace HM := Lib.hid HM.out.drew
    refine wp_region_held (S := fun u => Hold.Hld _ _ u) (by kernel_rfl) (wpAnyH_take (i := 1) (by simp only [List.getElem?_toArray, List.getElem?_cons_succ, List.getElem?_cons_zero]; rfl) (by kernel_rfl) (by as_aux_lemma => kernel_rfl) (by as_aux_lemma => kernel_rfl) (fun _ _ _ h => by exact h) (.inl ⟨rfl, fun u hu => by go_simp; with_reducible rfl⟩) HM.out ?_)
    try simp only [List.getElem_toArray, List.getElem_cons_succ, List.getElem_cons_zero, Act.put, List.setIfInBounds_toArray, List.set_cons_zero, List.set_cons_succ]
    refine wpAnyH_take (i := 2) (by simp only [List.getElem?_toArray, List.getElem?_cons_succ, List.getElem?_cons_zero]; rfl) (by kernel_rfl) (by as_aux_lemma => kernel_rfl) (by as_aux_lemma => kernel_rfl) (fun _ _ _ h => by exact h) (.inl ⟨rfl, fun u hu => by go_simp; with_reducible rfl⟩) HM.out ?_
    try simp only [List.getElem_toArray, List.getElem_cons_succ, List.getElem_cons_zero, Act.put, List.setIfInBounds_toArray, List.set_cons_zero, List.set_cons_succ]
    refine wpAnyH_take (i := 3) (by simp only [List.getElem?_toArray, List.getElem?_cons_succ, List.getElem?_cons_zero]; rfl) (by kernel_rfl) (by as_aux_lemma => kernel_rfl) (by as_aux_lemma => kernel_rfl) (fun _ _ _ h => by exact h) (.inl ⟨rfl, fun u hu => by go_simp; with_reducible rfl⟩) HM.out ?_
    try simp only [List.getElem_toArray, List.getElem_cons_succ, List.getElem_cons_zero, Act.put, List.setIfInBounds_toArray, List.set_cons_zero, List.set_cons_succ]
    refine wpAnyH_take (i := 4) (by simp only [List.getElem?_toArray, List.getElem?_cons_succ, List.getElem?_cons_zero]; rfl) (by kernel_rfl) (by as_aux_lemma => kernel_rfl) (by as_aux_lemma => kernel_rfl) (fun _ _ _ h => by exact h) (.inl ⟨rfl, fun u hu => load_old_run hu rfl rfl HB.out HC2.out cellErr⟩) HM.out ?_
    try simp only [List.getElem_toArray, List.getElem_cons_succ, List.getElem_cons_zero, Act.put, List.setIfInBounds_toArray, List.set_cons_zero, List.set_cons_succ]
    refine wpAnyH_take (i := 0) (by simp only [List.getElem?_toArray, List.getElem?_cons_succ, List.getElem?_cons_zero]; rfl) (by kernel_rfl) (by as_aux_lemma => kernel_rfl) (by as_aux_lemma => kernel_rfl) (fun _ _ _ h => by exact h) (.inl ⟨rfl, fun u hu => Hold.load_run hu 2 rfl rfl rfl (Hold.Part.all _) (by rw [zShare_len]; exact row_zShare)⟩) HM.out ?_
    try simp only [List.getElem_toArray, List.getElem_cons_succ, List.getElem_cons_zero, Act.put, List.setIfInBounds_toArray, List.set_cons_zero, List.set_cons_succ]
    refine wpAnyH_all (rs := [5]) (by kernel_rfl) (by simp) (fun j hj => ?_)
    obtain rfl : j = 5 := by simpa using hj
    refine Hold.op_store HM.out (by simp only [List.getElem?_toArray, List.getElem?_cons_succ, List.getElem?_cons_zero]; rfl) rfl rfl rfl rfl (k := 1) (v' := zShare) rfl (by rw [Nat.zero_add]; exact Nat.le_refl _) (Hold.lay_all rfl) zShare_one (by rw [zShare_len]; exact row_zShare) (fun w5 hm => ⟨hm, ?_⟩)
    clear HM
    have HM := Lib.hid hm
    clear hm
    try simp only [List.getElem_toArray, List.getElem_cons_succ, List.getElem_cons_zero, Act.put, List.setIfInBounds_toArray, List.set_cons_zero, List.set_cons_succ]
    refine wpAnyH_take (i := 6) (by simp only [List.getElem?_toArray, List.getElem?_cons_succ, List.getElem?_cons_zero]; rfl) (by kernel_rfl) (by as_aux_lemma => kernel_rfl) (by as_aux_lemma => kernel_rfl) (fun _ _ _ h => by exact h) (.inl ⟨rfl, fun u hu => by go_simp; with_reducible rfl⟩) HM.out ?_
    try simp only [List.getElem_toArray, List.getElem_cons_succ, List.getElem_cons_zero, Act.put, List.setIfInBounds_toArray, List.set_cons_zero, List.set_cons_succ]
    refine wpAnyH_done (by kernel_rfl) ?_ 0
    go_wp2
    refine bodyPost_ret (Hold.resultsCT HM.out 1 rfl _ rfl rfl rfl (by rw [zShare_len]; exact row_zShare)) rfl ?_
    exact ⟨rfl, HM.out.below⟩

def zCert : List Value := [.string ⟨#[]⟩, .slice none 0 0, .int .i64 0]
theorem zCert_len : zCert.length = 3 := rfl
theorem zCert_one : Hold.Single zCert := by simp [Hold.Single, zCert, Value.oneCell']
theorem zero_zCert : (Tryd.prog.info? 35).map (fun i => (i.zero, i.size)) = some (some (.agg zCert.toArray), zCert.length) := by kernel_rfl
theorem row_zCert : Hold.TyRow Tryd.prog 35 3 := ⟨_, Tryd.underlying35, rfl, by kernel_rfl⟩

set_option maxHeartbeats 1600000 in
theorem wholeCert_any (s : ByteArray) (p e F : Int) (cs Z : List Value) (b : Nat) (w : World) (hb : b < w.heap.size) (c0 : w.cell? ⟨b, 0, none⟩ = some (.string s)) (c1 : w.cell? ⟨b, 1, none⟩ = some (.int .i64 p)) (c2 : w.cell? ⟨b, 2, none⟩ = some (.int .i64 e)) (hl : cs.length = 3) (h1 : Hold.Single cs)
    (hZ : Z = if e = 0 ∧ ¬ p < (s.size : Int) then cs else zCert) (hF : F = if e = 0 then (if p < (s.size : Int) then 3 else 0) else e) :
    Calls Tryd.prog 47 #[.pointer (some ⟨b, 0, none⟩), .agg cs.toArray] w fun o w' => o = .returned (.tuple #[.agg Z.toArray, .int .i64 F]) ∧ Below w.heap.size w w' := by
  have HM := Lib.hid (Hold.Hld.start w)
  have HB := Lib.hid hb
  have HC0 := Lib.hid c0
  have HC1 := Lib.hid c1
  have HC2 := Lib.hid c2
  have HL := Lib.hid hl
  have HS := Lib.hid h1
  clear hb c0 c1 c2 hl h1
  by_cases h : e = 0
  · subst h
    by_cases hp : p < (s.size : Int)
    · obtain rfl : Z = zCert := by rw [hZ, if_neg (fun k => k.2 hp)]
      obtain rfl : F = 3 := by rw [hF, if_pos rfl, if_pos hp]
      have hd : ((0 : Int) != 0) = false := by simp
      have hd2 : decide (p < (s.size : Int)) = true := decide_eq_true hp
      clear hp hZ hF
      go_enter Tryd.func47, Tryd.ntmps47
      go_upto_region 4 with ((first
        | (with_reducible refine Hold.box HM.out rfl rfl rfl ?_; clear HM; intro b0 w HM; simp only [List.nil_append] at HM; replace HM := Lib.hid HM)
        | (with_reducible refine Hold.alloc HM.out rfl rfl zCert zero_zCert ?_; clear HM; intro b1 w HM; simp only [List.nil_append, List.cons_append] at HM; replace HM := Lib.hid HM)
        | (with_reducible refine load_old HM.out (c := .int .i64 0) rfl rfl rfl HB.out HC2.out cellErr ?_)))
      refine Steady.region 10 (by kernel_rfl) (by kernel_rfl) (fun u => Hold.Hld _ _ u) HM.out.drew ?_
      simp only [List.take_succ_cons, List.take_zero, List.drop_succ_cons, List.drop_zero]
      refine Steady.take ?_ rfl (by intro u hu; go_simp; with_reducible rfl) ?_
      simp only [Act.put, List.setIfInBounds_toArray, List.set_cons_zero, List.set_cons_succ]
      refine Steady.take ?_ rfl (by intro u hu; go_simp; with_reducible rfl) ?_
      simp only [Act.put, List.setIfInBounds_toArray, List.set_cons_zero, List.set_cons_succ]
      refine Steady.take ?_ rfl (by intro u hu; go_simp; with_reducible rfl) ?_
      simp only [Act.put, List.setIfInBounds_toArray, List.set_cons_zero, List.set_cons_succ]
      refine Steady.take (.int .i64 p) rfl (fun u hu => load_old_run hu rfl rfl HB.out HC1.out cellInt) ?_
      simp only [Act.put, List.setIfInBounds_toArray, List.set_cons_zero, List.set_cons_succ]
      refine Steady.take ?_ rfl (by intro u hu; go_simp; with_reducible rfl) ?_
      simp only [Act.put, List.setIfInBounds_toArray, List.set_cons_zero, List.set_cons_succ]
      refine Steady.take ?_ rfl (by intro u hu; go_simp; with_reducible rfl) ?_
      simp only [Act.put, List.setIfInBounds_toArray, List.set_cons_zero, List.set_cons_succ]
      refine Steady.take ?_ rfl (by intro u hu; go_simp; with_reducible rfl) ?_
      simp only [Act.put, List.setIfInBounds_toArray, List.set_cons_zero, List.set_cons_succ]
      refine Steady.take (.string s) rfl (fun u hu => load_old_run hu rfl rfl HB.out HC0.out cellStr) ?_
      simp only [Act.put, List.setIfInBounds_toArray, List.set_cons_zero, List.set_cons_succ]
      refine Steady.take ?_ rfl (by intro u hu; go_simp; with_reducible rfl) ?_
      simp only [Act.put, List.setIfInBounds_toArray, List.set_cons_zero, List.set_cons_succ]
      refine Steady.take ?_ rfl (by intro u hu; go_simp; with_reducible rfl) ?_
      simp only [Act.put, List.setIfInBounds_toArray, List.set_cons_zero, List.set_cons_succ]
      refine Steady.nil ?_
      clear HM
      intro w HM
      replace HM := Lib.hid HM
      go_wp2_with ((first
        | (with_reducible refine Hold.load HM.out 2 (cs := zCert) rfl rfl rfl rfl (Hold.Part.all _) (by rw [zCert_len]; exact row_zCert) ?_)
        | (with_reducible refine Hold.store HM.out 1 (v' := zCert) rfl rfl rfl rfl rfl (by rw [Nat.zero_add]; exact Nat.le_refl _) (Hold.lay_all rfl) (zCert_one) (by rw [zCert_len]; exact row_zCert) ?_; clear HM; intro w HM; simp only [List.set_cons_zero, List.set_cons_succ] at HM; replace HM := Lib.hid HM)))
      refine bodyPost_ret (Hold.resultsCT HM.out 1 rfl _ rfl rfl rfl (by rw [zCert_len]; exact row_zCert)) rfl ?_
      exact ⟨rfl, HM.out.below⟩
    · obtain rfl : Z = cs := by rw [hZ, if_pos ⟨rfl, hp⟩]
      obtain rfl : F = 0 := by rw [hF, if_pos rfl, if_neg hp]
      have hd : ((0 : Int) != 0) = false := by simp
      have hd2 : decide (p < (s.size : Int)) = false := decide_eq_false hp
      clear hp hZ hF
      go_enter Tryd.func47, Tryd.ntmps47
      go_upto_region 4 with ((first
        | (with_reducible refine Hold.box HM.out rfl rfl rfl ?_; clear HM; intro b0 w HM; simp only [List.nil_append] at HM; replace HM := Lib.hid HM)
        | (with_reducible refine Hold.alloc HM.out rfl rfl zCert zero_zCert ?_; clear HM; intro b1 w HM; simp only [List.nil_append, List.cons_append] at HM; replace HM := Lib.hid HM)
        | (with_reducible refine load_old HM.out (c := .int .i64 0) rfl rfl rfl HB.out HC2.out cellErr ?_)))
      refine Steady.region 10 (by kernel_rfl) (by kernel_rfl) (fun u => Hold.Hld _ _ u) HM.out.drew ?_
      simp only [List.take_succ_cons, List.take_zero, List.drop_succ_cons, List.drop_zero]
      refine Steady.take ?_ rfl (by intro u hu; go_simp; with_reducible rfl) ?_
      simp only [Act.put, List.setIfInBounds_toArray, List.set_cons_zero, List.set_cons_succ]
      refine Steady.take ?_ rfl (by intro u hu; go_simp; with_reducible rfl) ?_
      simp only [Act.put, List.setIfInBounds_toArray, List.set_cons_zero, List.set_cons_succ]
      refine Steady.take ?_ rfl (by intro u hu; go_simp; with_reducible rfl) ?_
      simp only [Act.put, List.setIfInBounds_toArray, List.set_cons_zero, List.set_cons_succ]
      refine Steady.take (.int .i64 p) rfl (fun u hu => load_old_run hu rfl rfl HB.out HC1.out cellInt) ?_
      simp only [Act.put, List.setIfInBounds_toArray, List.set_cons_zero, List.set_cons_succ]
      refine Steady.take ?_ rfl (by intro u hu; go_simp; with_reducible rfl) ?_
      simp only [Act.put, List.setIfInBounds_toArray, List.set_cons_zero, List.set_cons_succ]
      refine Steady.take ?_ rfl (by intro u hu; go_simp; with_reducible rfl) ?_
      simp only [Act.put, List.setIfInBounds_toArray, List.set_cons_zero, List.set_cons_succ]
      refine Steady.take ?_ rfl (by intro u hu; go_simp; with_reducible rfl) ?_
      simp only [Act.put, List.setIfInBounds_toArray, List.set_cons_zero, List.set_cons_succ]
      refine Steady.take (.string s) rfl (fun u hu => load_old_run hu rfl rfl HB.out HC0.out cellStr) ?_
      simp only [Act.put, List.setIfInBounds_toArray, List.set_cons_zero, List.set_cons_succ]
      refine Steady.take ?_ rfl (by intro u hu; go_simp; with_reducible rfl) ?_
      simp only [Act.put, List.setIfInBounds_toArray, List.set_cons_zero, List.set_cons_succ]
      refine Steady.take ?_ rfl (by intro u hu; go_simp; with_reducible rfl) ?_
      simp only [Act.put, List.setIfInBounds_toArray, List.set_cons_zero, List.set_cons_succ]
      refine Steady.nil ?_
      clear HM
      intro w HM
      replace HM := Lib.hid HM
      go_wp2_with ((first
        | (with_reducible refine Hold.load HM.out 0 (cs := Z) rfl rfl rfl rfl (Hold.Part.all _) (by rw [HL.out]; exact row_zCert) ?_)
        | (with_reducible refine Hold.store HM.out 1 (v' := Z) rfl rfl rfl rfl rfl (by rw [HL.out, zCert_len]; exact Nat.le_refl _) (Hold.lay_all (by rw [HL.out, zCert_len])) (HS.out) (by rw [HL.out]; exact row_zCert) ?_; clear HM; intro w HM; simp only [List.set_cons_zero, List.set_cons_succ] at HM; replace HM := Lib.hid HM)))
      refine bodyPost_ret (Hold.resultsCT HM.out 1 rfl _ rfl rfl rfl (by rw [HL.out]; exact row_zCert)) rfl ?_
      exact ⟨rfl, HM.out.below⟩
  · obtain rfl : Z = zCert := by rw [hZ, if_neg (fun k => h k.1)]
    obtain rfl : F = e := by rw [hF, if_neg h]
    have hd : (F != 0) = true := by simp [h]
    clear h hZ hF
    go_enter Tryd.func47, Tryd.ntmps47
    go_upto_region 3 with ((first
      | (with_reducible refine Hold.box HM.out rfl rfl rfl ?_; clear HM; intro b0 w HM; simp only [List.nil_append] at HM; replace HM := Lib.hid HM)
      | (with_reducible refine Hold.alloc HM.out rfl rfl zCert zero_zCert ?_; clear HM; intro b1 w HM; simp only [List.nil_append, List.cons_append] at HM; replace HM := Lib.hid HM)
      | (with_reducible refine load_old HM.out (c := .int .i64 F) rfl rfl rfl HB.out HC2.out cellErr ?_)))
    replace HM := Lib.hid HM.out.drew
    refine wp_region_held (S := fun u => Hold.Hld _ _ u) (by kernel_rfl) (wpAnyH_take (i := 1) (by simp only [List.getElem?_toArray, List.getElem?_cons_succ, List.getElem?_cons_zero]; rfl) (by kernel_rfl) (by as_aux_lemma => kernel_rfl) (by as_aux_lemma => kernel_rfl) (fun _ _ _ h => by exact h) (.inl ⟨rfl, fun u hu => by go_simp; with_reducible rfl⟩) HM.out ?_)
    try simp only [List.getElem_toArray, List.getElem_cons_succ, List.getElem_cons_zero, Act.put, List.setIfInBounds_toArray, List.set_cons_zero, List.set_cons_succ]
    refine wpAnyH_take (i := 2) (by simp only [List.getElem?_toArray, List.getElem?_cons_succ, List.getElem?_cons_zero]; rfl) (by kernel_rfl) (by as_aux_lemma => kernel_rfl) (by as_aux_lemma => kernel_rfl) (fun _ _ _ h => by exact h) (.inl ⟨rfl, fun u hu => by go_simp; with_reducible rfl⟩) HM.out ?_
    try simp only [List.getElem_toArray, List.getElem_cons_succ, List.getElem_cons_zero, Act.put, List.setIfInBounds_toArray, List.set_cons_zero, List.set_cons_succ]
    refine wpAnyH_take (i := 3) (by simp only [List.getElem?_toArray, List.getElem?_cons_succ, List.getElem?_cons_zero]; rfl) (by kernel_rfl) (by as_aux_lemma => kernel_rfl) (by as_aux_lemma => kernel_rfl) (fun _ _ _ h => by exact h) (.inl ⟨rfl, fun u hu => by go_simp; with_reducible rfl⟩) HM.out ?_
    try simp only [List.getElem_toArray, List.getElem_cons_succ, List.getElem_cons_zero, Act.put, List.setIfInBounds_toArray, List.set_cons_zero, List.set_cons_succ]
    refine wpAnyH_take (i := 4) (by simp only [List.getElem?_toArray, List.getElem?_cons_succ, List.getElem?_cons_zero]; rfl) (by kernel_rfl) (by as_aux_lemma => kernel_rfl) (by as_aux_lemma => kernel_rfl) (fun _ _ _ h => by exact h) (.inl ⟨rfl, fun u hu => load_old_run hu rfl rfl HB.out HC2.out cellErr⟩) HM.out ?_
    try simp only [List.getElem_toArray, List.getElem_cons_succ, List.getElem_cons_zero, Act.put, List.setIfInBounds_toArray, List.set_cons_zero, List.set_cons_succ]
    refine wpAnyH_take (i := 0) (by simp only [List.getElem?_toArray, List.getElem?_cons_succ, List.getElem?_cons_zero]; rfl) (by kernel_rfl) (by as_aux_lemma => kernel_rfl) (by as_aux_lemma => kernel_rfl) (fun _ _ _ h => by exact h) (.inl ⟨rfl, fun u hu => Hold.load_run hu 2 rfl rfl rfl (Hold.Part.all _) (by rw [zCert_len]; exact row_zCert)⟩) HM.out ?_
    try simp only [List.getElem_toArray, List.getElem_cons_succ, List.getElem_cons_zero, Act.put, List.setIfInBounds_toArray, List.set_cons_zero, List.set_cons_succ]
    refine wpAnyH_all (rs := [5]) (by kernel_rfl) (by simp) (fun j hj => ?_)
    obtain rfl : j = 5 := by simpa using hj
    refine Hold.op_store HM.out (by simp only [List.getElem?_toArray, List.getElem?_cons_succ, List.getElem?_cons_zero]; rfl) rfl rfl rfl rfl (k := 1) (v' := zCert) rfl (by rw [Nat.zero_add]; exact Nat.le_refl _) (Hold.lay_all rfl) zCert_one (by rw [zCert_len]; exact row_zCert) (fun w5 hm => ⟨hm, ?_⟩)
    clear HM
    have HM := Lib.hid hm
    clear hm
    try simp only [List.getElem_toArray, List.getElem_cons_succ, List.getElem_cons_zero, Act.put, List.setIfInBounds_toArray, List.set_cons_zero, List.set_cons_succ]
    refine wpAnyH_take (i := 6) (by simp only [List.getElem?_toArray, List.getElem?_cons_succ, List.getElem?_cons_zero]; rfl) (by kernel_rfl) (by as_aux_lemma => kernel_rfl) (by as_aux_lemma => kernel_rfl) (fun _ _ _ h => by exact h) (.inl ⟨rfl, fun u hu => by go_simp; with_reducible rfl⟩) HM.out ?_
    try simp only [List.getElem_toArray, List.getElem_cons_succ, List.getElem_cons_zero, Act.put, List.setIfInBounds_toArray, List.set_cons_zero, List.set_cons_succ]
    refine wpAnyH_done (by kernel_rfl) ?_ 0
    go_wp2
    refine bodyPost_ret (Hold.resultsCT HM.out 1 rfl _ rfl rfl rfl (by rw [zCert_len]; exact row_zCert)) rfl ?_
    exact ⟨rfl, HM.out.below⟩

def zOut : List Value := [.slice none 0 0]
theorem zOut_len : zOut.length = 1 := rfl
theorem zOut_one : Hold.Single zOut := by simp [Hold.Single, zOut, Value.oneCell']
theorem zero_zOut : (Tryd.prog.info? 37).map (fun i => (i.zero, i.size)) = some (some (.agg zOut.toArray), zOut.length) := by kernel_rfl
theorem row_zOut : Hold.TyRow Tryd.prog 37 1 := ⟨_, Tryd.underlying37, rfl, by kernel_rfl⟩

set_option maxHeartbeats 1600000 in
theorem wholeOut_any (s : ByteArray) (p e F : Int) (cs Z : List Value) (b : Nat) (w : World) (hb : b < w.heap.size) (c0 : w.cell? ⟨b, 0, none⟩ = some (.string s)) (c1 : w.cell? ⟨b, 1, none⟩ = some (.int .i64 p)) (c2 : w.cell? ⟨b, 2, none⟩ = some (.int .i64 e)) (hl : cs.length = 1) (h1 : Hold.Single cs)
    (hZ : Z = if e = 0 ∧ ¬ p < (s.size : Int) then cs else zOut) (hF : F = if e = 0 then (if p < (s.size : Int) then 3 else 0) else e) :
    Calls Tryd.prog 48 #[.pointer (some ⟨b, 0, none⟩), .agg cs.toArray] w fun o w' => o = .returned (.tuple #[.agg Z.toArray, .int .i64 F]) ∧ Below w.heap.size w w' := by
  have HM := Lib.hid (Hold.Hld.start w)
  have HB := Lib.hid hb
  have HC0 := Lib.hid c0
  have HC1 := Lib.hid c1
  have HC2 := Lib.hid c2
  have HL := Lib.hid hl
  have HS := Lib.hid h1
  clear hb c0 c1 c2 hl h1
  by_cases h : e = 0
  · subst h
    by_cases hp : p < (s.size : Int)
    · obtain rfl : Z = zOut := by rw [hZ, if_neg (fun k => k.2 hp)]
      obtain rfl : F = 3 := by rw [hF, if_pos rfl, if_pos hp]
      have hd : ((0 : Int) != 0) = false := by simp
      have hd2 : decide (p < (s.size : Int)) = true := decide_eq_true hp
      clear hp hZ hF
      go_enter Tryd.func48, Tryd.ntmps48
      go_upto_region 4 with ((first
        | (with_reducible refine Hold.box HM.out rfl rfl rfl ?_; clear HM; intro b0 w HM; simp only [List.nil_append] at HM; replace HM := Lib.hid HM)
        | (with_reducible refine Hold.alloc HM.out rfl rfl zOut zero_zOut ?_; clear HM; intro b1 w HM; simp only [List.nil_append, List.cons_append] at HM; replace HM := Lib.hid HM)
        | (with_reducible refine load_old HM.out (c := .int .i64 0) rfl rfl rfl HB.out HC2.out cellErr ?_)))
      refine Steady.region 10 (by kernel_rfl) (by kernel_rfl) (fun u => Hold.Hld _ _ u) HM.out.drew ?_
      simp only [List.take_succ_cons, List.take_zero, List.drop_succ_cons, List.drop_zero]
      refine Steady.take ?_ rfl (by intro u hu; go_simp; with_reducible rfl) ?_
      simp only [Act.put, List.setIfInBounds_toArray, List.set_cons_zero, List.set_cons_succ]
      refine Steady.take ?_ rfl (by intro u hu; go_simp; with_reducible rfl) ?_
      simp only [Act.put, List.setIfInBounds_toArray, List.set_cons_zero, List.set_cons_succ]
      refine Steady.take ?_ rfl (by intro u hu; go_simp; with_reducible rfl) ?_
      simp only [Act.put, List.setIfInBounds_toArray, List.set_cons_zero, List.set_cons_succ]
      refine Steady.take (.int .i64 p) rfl (fun u hu => load_old_run hu rfl rfl HB.out HC1.out cellInt) ?_
      simp only [Act.put, List.setIfInBounds_toArray, List.set_cons_zero, List.set_cons_succ]
      refine Steady.take ?_ rfl (by intro u hu; go_simp; with_reducible rfl) ?_
      simp only [Act.put, List.setIfInBounds_toArray, List.set_cons_zero, List.set_cons_succ]
      refine Steady.take ?_ rfl (by intro u hu; go_simp; with_reducible rfl) ?_
      simp only [Act.put, List.setIfInBounds_toArray, List.set_cons_zero, List.set_cons_succ]
      refine Steady.take ?_ rfl (by intro u hu; go_simp; with_reducible rfl) ?_
      simp only [Act.put, List.setIfInBounds_toArray, List.set_cons_zero, List.set_cons_succ]
      refine Steady.take (.string s) rfl (fun u hu => load_old_run hu rfl rfl HB.out HC0.out cellStr) ?_
      simp only [Act.put, List.setIfInBounds_toArray, List.set_cons_zero, List.set_cons_succ]
      refine Steady.take ?_ rfl (by intro u hu; go_simp; with_reducible rfl) ?_
      simp only [Act.put, List.setIfInBounds_toArray, List.set_cons_zero, List.set_cons_succ]
      refine Steady.take ?_ rfl (by intro u hu; go_simp; with_reducible rfl) ?_
      simp only [Act.put, List.setIfInBounds_toArray, List.set_cons_zero, List.set_cons_succ]
      refine Steady.nil ?_
      clear HM
      intro w HM
      replace HM := Lib.hid HM
      go_wp2_with ((first
        | (with_reducible refine Hold.load HM.out 2 (cs := zOut) rfl rfl rfl rfl (Hold.Part.all _) (by rw [zOut_len]; exact row_zOut) ?_)
        | (with_reducible refine Hold.store HM.out 1 (v' := zOut) rfl rfl rfl rfl rfl (by rw [Nat.zero_add]; exact Nat.le_refl _) (Hold.lay_all rfl) (zOut_one) (by rw [zOut_len]; exact row_zOut) ?_; clear HM; intro w HM; simp only [List.set_cons_zero, List.set_cons_succ] at HM; replace HM := Lib.hid HM)))
      refine bodyPost_ret (Hold.resultsCT HM.out 1 rfl _ rfl rfl rfl (by rw [zOut_len]; exact row_zOut)) rfl ?_
      exact ⟨rfl, HM.out.below⟩
    · obtain rfl : Z = cs := by rw [hZ, if_pos ⟨rfl, hp⟩]
      obtain rfl : F = 0 := by rw [hF, if_pos rfl, if_neg hp]
      have hd : ((0 : Int) != 0) = false := by simp
      have hd2 : decide (p < (s.size : Int)) = false := decide_eq_false hp
      clear hp hZ hF
      go_enter Tryd.func48, Tryd.ntmps48
      go_upto_region 4 with ((first
        | (with_reducible refine Hold.box HM.out rfl rfl rfl ?_; clear HM; intro b0 w HM; simp only [List.nil_append] at HM; replace HM := Lib.hid HM)
        | (with_reducible refine Hold.alloc HM.out rfl rfl zOut zero_zOut ?_; clear HM; intro b1 w HM; simp only [List.nil_append, List.cons_append] at HM; replace HM := Lib.hid HM)
        | (with_reducible refine load_old HM.out (c := .int .i64 0) rfl rfl rfl HB.out HC2.out cellErr ?_)))
      refine Steady.region 10 (by kernel_rfl) (by kernel_rfl) (fun u => Hold.Hld _ _ u) HM.out.drew ?_
      simp only [List.take_succ_cons, List.take_zero, List.drop_succ_cons, List.drop_zero]
      refine Steady.take ?_ rfl (by intro u hu; go_simp; with_reducible rfl) ?_
      simp only [Act.put, List.setIfInBounds_toArray, List.set_cons_zero, List.set_cons_succ]
      refine Steady.take ?_ rfl (by intro u hu; go_simp; with_reducible rfl) ?_
      simp only [Act.put, List.setIfInBounds_toArray, List.set_cons_zero, List.set_cons_succ]
      refine Steady.take ?_ rfl (by intro u hu; go_simp; with_reducible rfl) ?_
      simp only [Act.put, List.setIfInBounds_toArray, List.set_cons_zero, List.set_cons_succ]
      refine Steady.take (.int .i64 p) rfl (fun u hu => load_old_run hu rfl rfl HB.out HC1.out cellInt) ?_
      simp only [Act.put, List.setIfInBounds_toArray, List.set_cons_zero, List.set_cons_succ]
      refine Steady.take ?_ rfl (by intro u hu; go_simp; with_reducible rfl) ?_
      simp only [Act.put, List.setIfInBounds_toArray, List.set_cons_zero, List.set_cons_succ]
      refine Steady.take ?_ rfl (by intro u hu; go_simp; with_reducible rfl) ?_
      simp only [Act.put, List.setIfInBounds_toArray, List.set_cons_zero, List.set_cons_succ]
      refine Steady.take ?_ rfl (by intro u hu; go_simp; with_reducible rfl) ?_
      simp only [Act.put, List.setIfInBounds_toArray, List.set_cons_zero, List.set_cons_succ]
      refine Steady.take (.string s) rfl (fun u hu => load_old_run hu rfl rfl HB.out HC0.out cellStr) ?_
      simp only [Act.put, List.setIfInBounds_toArray, List.set_cons_zero, List.set_cons_succ]
      refine Steady.take ?_ rfl (by intro u hu; go_simp; with_reducible rfl) ?_
      simp only [Act.put, List.setIfInBounds_toArray, List.set_cons_zero, List.set_cons_succ]
      refine Steady.take ?_ rfl (by intro u hu; go_simp; with_reducible rfl) ?_
      simp only [Act.put, List.setIfInBounds_toArray, List.set_cons_zero, List.set_cons_succ]
      refine Steady.nil ?_
      clear HM
      intro w HM
      replace HM := Lib.hid HM
      go_wp2_with ((first
        | (with_reducible refine Hold.load HM.out 0 (cs := Z) rfl rfl rfl rfl (Hold.Part.all _) (by rw [HL.out]; exact row_zOut) ?_)
        | (with_reducible refine Hold.store HM.out 1 (v' := Z) rfl rfl rfl rfl rfl (by rw [HL.out, zOut_len]; exact Nat.le_refl _) (Hold.lay_all (by rw [HL.out, zOut_len])) (HS.out) (by rw [HL.out]; exact row_zOut) ?_; clear HM; intro w HM; simp only [List.set_cons_zero, List.set_cons_succ] at HM; replace HM := Lib.hid HM)))
      refine bodyPost_ret (Hold.resultsCT HM.out 1 rfl _ rfl rfl rfl (by rw [HL.out]; exact row_zOut)) rfl ?_
      exact ⟨rfl, HM.out.below⟩
  · obtain rfl : Z = zOut := by rw [hZ, if_neg (fun k => h k.1)]
    obtain rfl : F = e := by rw [hF, if_neg h]
    have hd : (F != 0) = true := by simp [h]
    clear h hZ hF
    go_enter Tryd.func48, Tryd.ntmps48
    go_upto_region 3 with ((first
      | (with_reducible refine Hold.box HM.out rfl rfl rfl ?_; clear HM; intro b0 w HM; simp only [List.nil_append] at HM; replace HM := Lib.hid HM)
      | (with_reducible refine Hold.alloc HM.out rfl rfl zOut zero_zOut ?_; clear HM; intro b1 w HM; simp only [List.nil_append, List.cons_append] at HM; replace HM := Lib.hid HM)
      | (with_reducible refine load_old HM.out (c := .int .i64 F) rfl rfl rfl HB.out HC2.out cellErr ?_)))
    replace HM := Lib.hid HM.out.drew
    refine wp_region_held (S := fun u => Hold.Hld _ _ u) (by kernel_rfl) (wpAnyH_take (i := 1) (by simp only [List.getElem?_toArray, List.getElem?_cons_succ, List.getElem?_cons_zero]; rfl) (by kernel_rfl) (by as_aux_lemma => kernel_rfl) (by as_aux_lemma => kernel_rfl) (fun _ _ _ h => by exact h) (.inl ⟨rfl, fun u hu => by go_simp; with_reducible rfl⟩) HM.out ?_)
    try simp only [List.getElem_toArray, List.getElem_cons_succ, List.getElem_cons_zero, Act.put, List.setIfInBounds_toArray, List.set_cons_zero, List.set_cons_succ]
    refine wpAnyH_take (i := 2) (by simp only [List.getElem?_toArray, List.getElem?_cons_succ, List.getElem?_cons_zero]; rfl) (by kernel_rfl) (by as_aux_lemma => kernel_rfl) (by as_aux_lemma => kernel_rfl) (fun _ _ _ h => by exact h) (.inl ⟨rfl, fun u hu => by go_simp; with_reducible rfl⟩) HM.out ?_
    try simp only [List.getElem_toArray, List.getElem_cons_succ, List.getElem_cons_zero, Act.put, List.setIfInBounds_toArray, List.set_cons_zero, List.set_cons_succ]
    refine wpAnyH_take (i := 3) (by simp only [List.getElem?_toArray, List.getElem?_cons_succ, List.getElem?_cons_zero]; rfl) (by kernel_rfl) (by as_aux_lemma => kernel_rfl) (by as_aux_lemma => kernel_rfl) (fun _ _ _ h => by exact h) (.inl ⟨rfl, fun u hu => by go_simp; with_reducible rfl⟩) HM.out ?_
    try simp only [List.getElem_toArray, List.getElem_cons_succ, List.getElem_cons_zero, Act.put, List.setIfInBounds_toArray, List.set_cons_zero, List.set_cons_succ]
    refine wpAnyH_take (i := 4) (by simp only [List.getElem?_toArray, List.getElem?_cons_succ, List.getElem?_cons_zero]; rfl) (by kernel_rfl) (by as_aux_lemma => kernel_rfl) (by as_aux_lemma => kernel_rfl) (fun _ _ _ h => by exact h) (.inl ⟨rfl, fun u hu => load_old_run hu rfl rfl HB.out HC2.out cellErr⟩) HM.out ?_
    try simp only [List.getElem_toArray, List.getElem_cons_succ, List.getElem_cons_zero, Act.put, List.setIfInBounds_toArray, List.set_cons_zero, List.set_cons_succ]
    refine wpAnyH_take (i := 0) (by simp only [List.getElem?_toArray, List.getElem?_cons_succ, List.getElem?_cons_zero]; rfl) (by kernel_rfl) (by as_aux_lemma => kernel_rfl) (by as_aux_lemma => kernel_rfl) (fun _ _ _ h => by exact h) (.inl ⟨rfl, fun u hu => Hold.load_run hu 2 rfl rfl rfl (Hold.Part.all _) (by rw [zOut_len]; exact row_zOut)⟩) HM.out ?_
    try simp only [List.getElem_toArray, List.getElem_cons_succ, List.getElem_cons_zero, Act.put, List.setIfInBounds_toArray, List.set_cons_zero, List.set_cons_succ]
    refine wpAnyH_all (rs := [5]) (by kernel_rfl) (by simp) (fun j hj => ?_)
    obtain rfl : j = 5 := by simpa using hj
    refine Hold.op_store HM.out (by simp only [List.getElem?_toArray, List.getElem?_cons_succ, List.getElem?_cons_zero]; rfl) rfl rfl rfl rfl (k := 1) (v' := zOut) rfl (by rw [Nat.zero_add]; exact Nat.le_refl _) (Hold.lay_all rfl) zOut_one (by rw [zOut_len]; exact row_zOut) (fun w5 hm => ⟨hm, ?_⟩)
    clear HM
    have HM := Lib.hid hm
    clear hm
    try simp only [List.getElem_toArray, List.getElem_cons_succ, List.getElem_cons_zero, Act.put, List.setIfInBounds_toArray, List.set_cons_zero, List.set_cons_succ]
    refine wpAnyH_take (i := 6) (by simp only [List.getElem?_toArray, List.getElem?_cons_succ, List.getElem?_cons_zero]; rfl) (by kernel_rfl) (by as_aux_lemma => kernel_rfl) (by as_aux_lemma => kernel_rfl) (fun _ _ _ h => by exact h) (.inl ⟨rfl, fun u hu => by go_simp; with_reducible rfl⟩) HM.out ?_
    try simp only [List.getElem_toArray, List.getElem_cons_succ, List.getElem_cons_zero, Act.put, List.setIfInBounds_toArray, List.set_cons_zero, List.set_cons_succ]
    refine wpAnyH_done (by kernel_rfl) ?_ 0
    go_wp2
    refine bodyPost_ret (Hold.resultsCT HM.out 1 rfl _ rfl rfl rfl (by rw [zOut_len]; exact row_zOut)) rfl ?_
    exact ⟨rfl, HM.out.below⟩
end Go.Proofs.YtlinpbmglcjkkaaDoor.Rdr
