/-
  Slices of cells cut, made and copied; Put of package tape: what the plain mathematics of the text Tap says, in memory of its own; all memory that was there is left as it was. Conditions: no list has more than 1000000 cells; a slice is no longer than its room.
-/
import Derived.Test.YtpamdpfgcbadhaaDoorTpF
namespace Go.Proofs.YtpamdpfgcbadhaaDoor.Tape
open Go.RowKit Mur Prt Lanes Tap Cel RTap
set_option maxRecDepth 100000
set_option linter.unusedSimpArgs false

theorem size_cel (w : World) : (Go.sizeOf 50).run Tryd.prog w = .ok 2 w := by
  have h : (Tryd.prog.info? 50).map (·.size) = some 2 := by kernel_rfl
  cases hq : Tryd.prog.info? 50 with
  | none => simp [hq] at h
  | some i =>
    have : i.size = 2 := by simpa [hq] using h
    simp [Go.sizeOf, typeInfo, hq, this]
theorem elem_cel : Tryd.prog.elem 22 = 50 := by simp [Program.elem, Tryd.underlying22]
theorem und_cel : Tryd.prog.underlying 22 = some (.slice (Tryd.prog.elem 22)) := by rw [elem_cel]; exact Tryd.underlying22
theorem cut_to (a : Option Addr) (n c k : Nat) (h : k ≤ c) (u : World) : (Instr.slice 22 (.slice a n c) none (some (.int .i64 (k : Int))) none).run Tryd.prog u = .ok (.slice a k c) u := by
  rw [run_slice_h u 22 a n c und_cel .i64 (k : Int) (by omega) (by omega), elem_cel, size_cel]
  have e : sliced a 0 k c 2 = .slice a k c := by
    unfold sliced
    cases a with
    | none => simp
    | some x =>
      obtain ⟨b, o, sp⟩ := x
      simp [Addr.add]
  simp [Result.andThen, e]
/-- Where what is behind place k begins. -/
def behindA (a : Option Addr) (c k : Nat) : Option Addr := if c = k then a else a.map (·.add (k * 2))
theorem cut_from (a : Option Addr) (n c k : Nat) (h : k ≤ n) (z : Int) (hz : z = (k : Int)) (u : World) : (Instr.slice 22 (.slice a n c) (some (.int .i64 z)) none none).run Tryd.prog u = .ok (.slice (behindA a c k) (n - k) (c - k)) u := by
  subst hz
  rw [run_slice_l u 22 a n c und_cel .i64 (k : Int) (by omega) (by omega), elem_cel, size_cel]
  have : ((k : Int)).toNat = k := by omega
  simp only [Result.andThen, sliced, this]
  rfl
theorem cel_take {w : World} {a : Option Addr} {l : List K} (h : CelR w a l) (k : Nat) : CelR w a (l.take k) := fun h0 => by
  obtain ⟨b, o, ha, hb, hc⟩ := h (fun e => h0 (by rw [List.length_take, e]; simp))
  exact ⟨b, o, ha, hb, fun i x hx => hc i x (by rw [List.getElem?_take] at hx; split at hx; exact hx; cases hx)⟩
theorem cel_drop {w : World} {a : Option Addr} {l : List K} {c : Nat} (h : CelR w a l) (hc : l.length ≤ c) (k : Nat) : CelR w (behindA a c k) (l.drop k) := fun h0 => by
  rw [List.length_drop] at h0
  obtain ⟨b, o, rfl, hb, hcl⟩ := h (by omega)
  refine ⟨b, o + k * 2, ?_, hb, fun i x hx => ?_⟩
  · rw [behindA, if_neg (by omega)]
    show some ((⟨b, o, none⟩ : Addr).add (k * 2)) = _
    rw [Go.WideShapes.add_plain]
  · rw [List.getElem?_drop] at hx
    have := hcl (k + i) x hx
    rw [show o + k * 2 + i * 2 = o + (k + i) * 2 by omega]
    exact this

theorem make_cel (w : World) (k m : Nat) (z : Int) (hz : z = (m : Int)) (hk : k ≤ m) (hm : m ≤ 1000001) :
    (Instr.makeSlice 22 (.int .i64 (k : Int)) (.int .i64 z)).run Tryd.prog w = .ok (.slice (some ⟨w.heap.size, 0, none⟩) k m) (w.alloc (.cells (madeCells #[.string ⟨#[]⟩, .string ⟨#[]⟩] (m * 2)) 50)) := by
  subst hz
  obtain ⟨i0, hi, hz0, hz1, hz2⟩ := info_parts info_cel
  have h := run_make (P := Tryd.prog) w 22 50 i0 _ Tryd.underlying22 hi hz0 .i64 .i64 (k : Int) (m : Int) (by omega) (by omega) (by rw [hz2]; omega) (by omega)
  rw [hz1, show (Value.agg #[.string ⟨#[]⟩, .string ⟨#[]⟩]).cells = #[.string ⟨#[]⟩, .string ⟨#[]⟩] from rfl] at h
  simpa using h

/-- 'copy' of as many cells as the row is long. -/
theorem copy_cel {ops : Array Oper} {rest : List Oper} {o : Oper} {a : Act} {W : World} {Q : Exit → Act → World → Prop} (hgd : o.guard = none) (d s : Operand)
    (ho : o.op = .call { callee := .builtin .copy, args := #[d, s], argTypes := #[22, 22] }) (base g m C sc : Nat) (cur : Array Value) (ao : Option Addr) (l : List K) (hd : a.eval d = .slice (some ⟨g, 0, none⟩) m C) (hs : a.eval s = .slice ao m sc)
    (hg : W.heap[g]? = some (.cells cur 50 (0, 0))) (hcur : cur.size = C * 2) (hmC : m ≤ C) (hC : C ≤ 1000001) (hl : l.length = m) (hr : CelR W ao l) (hbase : base ≤ g)
    (h : ∀ w', w'.ownsRow base 50 2 (.slice (some ⟨g, 0, none⟩) m C) m (cellsV l) → Below base W w' → wpList Tryd.prog ops Q rest (a.put o.dst (goInt m)) w') : wpList Tryd.prog ops Q (o :: rest) a W := by
  have hrun : ∃ w', (Builtin.copy_ #[22, 22] o.type #[.slice (some ⟨g, 0, none⟩) m C, .slice ao m sc]).run Tryd.prog W = .ok (goInt m) w' ∧ w'.ownsRow base 50 2 (.slice (some ⟨g, 0, none⟩) m C) m (cellsV l) ∧ Below base W w' := by
    by_cases h0 : m = 0
    · subst h0
      obtain rfl := List.eq_nil_of_length_eq_zero hl
      refine ⟨W, ?_, ⟨by simp [cellsV], .inr ⟨g, C, cur, rfl, hbase, hg, hmC, by unfold maxLen; omega, hcur, rfl⟩⟩, Below.refl _ _⟩
      cases ao with
      | none => simp [Builtin.copy_, run_underlying Tryd.underlying22, Builtin.lenOf, Builtin.firstCells, size_cel, storeCells]
      | some x =>
        have hld : (loadCells x 0).run Tryd.prog W = .ok #[] W := run_loadCells_list (P := Tryd.prog) W x [] (fun j v hv => by simp at hv)
        simp [Builtin.copy_, run_underlying Tryd.underlying22, Builtin.lenOf, Builtin.firstCells, size_cel, storeCells, hld]
    · obtain ⟨b, off, rfl, hb, hc⟩ := hr (by omega)
      have hcl : (cellsV l).length = m * 2 := by rw [cellsV_length, hl]
      have hld : (loadCells ⟨b, off, none⟩ (m * 2)).run Tryd.prog W = .ok (cellsV l).toArray W := by
        rw [← hcl]
        refine run_loadCells_list (P := Tryd.prog) W ⟨b, off, none⟩ (cellsV l) (fun j v hv => ?_)
        rw [Go.WideShapes.add_plain]
        have hj : j < m * 2 := by rw [← hcl]; exact (List.getElem?_eq_some_iff.1 hv).1
        obtain ⟨x, hx⟩ : ∃ x, l[j / 2]? = some x := ⟨_, List.getElem?_eq_getElem (by omega)⟩
        have h1 := cellsV_at l (j / 2) x hx
        have h2 := hc (j / 2) x hx
        rcases Nat.mod_two_eq_zero_or_one j with e | e
        · rw [show j / 2 * 2 = j by omega] at h1 h2
          rw [h1.1] at hv
          cases hv
          exact h2.1
        · rw [show j / 2 * 2 + 1 = j by omega] at h1
          rw [show off + j / 2 * 2 + 1 = off + j by omega] at h2
          rw [h1.2] at hv
          cases hv
          exact h2.2
      have hst := run_storeCells_at (P := Tryd.prog) g 0 50 (cellsV l) 0 cur W hg (by rw [hcl]; omega) (cellsV_one l)
      simp only [Nat.zero_add, List.take_zero, List.nil_append] at hst
      refine ⟨_, by simp [Builtin.copy_, run_underlying Tryd.underlying22, Builtin.lenOf, Builtin.firstCells, size_cel, hld, hst]; rfl, ⟨hcl, .inr ⟨g, C, _, rfl, hbase, setRow_heap W g _ _ _ _ hg, hmC, by unfold maxLen; omega, ?_, ?_⟩⟩, below_setRow (Below.refl _ _) hbase _⟩
      · rw [List.size_toArray, List.length_append, hcl, List.length_drop, Array.length_toList, hcur]
        omega
      · show ((cellsV l ++ cur.toList.drop (cellsV l).length).toArray.toList).take (m * 2) = _
        rw [List.toList_toArray, ← hcl, List.take_left]
  obtain ⟨w', hrun, h1, h2⟩ := hrun
  refine wpList_plain hgd fun K hK => ?_
  unfold Oper.wp
  simp [execOp, ho, resolve, invoke, builtin, hd, hs, hrun, Result.andThen]
  exact hK _ _ (h w' h1 h2)

theorem own_room {w : World} {base n c : Nat} {ao : Option Addr} {l : List K} (h : w.ownsRow base 50 2 (.slice ao n c) n (cellsV l)) : n ≤ c := by
  rcases h.2 with ⟨h1, h2⟩ | ⟨g, cap, cur, h1, -, -, h2, -, -, -⟩
  · omega
  · cases h1
    exact h2
theorem putF_true_nil (n s : List UInt8) : putF n s true [] = [] := rfl
theorem put_none (l : List K) (nm s : ByteArray) (h : ∀ x ∈ l, same nm x = false) : put (toC l) nm.data.toList s.data.toList = toC l ++ [(nm.data.toList, s.data.toList)] := by
  unfold put
  induction l with
  | nil => rfl
  | cons x l ih =>
    show putF _ _ false ((x.1.data.toList, x.2.data.toList) :: toC l) = _
    rw [putF_cons, if_neg (same_no nm x (h x List.mem_cons_self)), ih fun y hy => h y (List.mem_cons_of_mem _ hy)]
    rfl
theorem put_some (l : List K) (nm s : ByteArray) (k : Nat) (x : K) (hx : l[k]? = some x) (hs : same nm x = true) (h : ∀ y ∈ l.take k, same nm y = false) :
    put (toC l) nm.data.toList s.data.toList = toC (l.take k) ++ (nm.data.toList, s.data.toList) :: putF nm.data.toList s.data.toList true (toC (l.drop (k + 1))) := by
  unfold put
  induction l generalizing k with
  | nil => simp at hx
  | cons y l ih =>
    show putF _ _ false ((y.1.data.toList, y.2.data.toList) :: toC l) = _
    cases k with
    | zero =>
      simp at hx
      subst hx
      rw [putF_cons, if_pos ((same_iff nm y).1 hs), if_neg (by decide)]
      rfl
    | succ k =>
      rw [putF_cons, if_neg (same_no nm y (h y (by simp))), ih k (by simpa using hx) (fun z hz => h z (by rw [List.take_succ_cons]; exact List.mem_cons_of_mem _ hz))]
      rfl

set_option maxHeartbeats 6400000 in
theorem put_any (l : List K) (n : Nat) (a : Option Addr) (c : Nat) (nm s : ByteArray) (L : List C) (N : Nat) (w : World) (hL : L = put (toC l) nm.data.toList s.data.toList) (hN : L.length = N) (hr : CelR w a l) (hn : l.length = n) (hn2 : n ≤ 1000000) (hnc : n ≤ c) :
    Calls Tryd.prog 12 #[.slice a n c, .string nm, .string s] w fun e w' => ∃ ao co, e = .returned (.slice ao N co) ∧ N ≤ co ∧ CelR w' ao (ofC L) ∧ (∀ q, ao = some q → w.heap.size ≤ q.block) ∧ Below w.heap.size w w' := by
  have hb0 : Tryd.prog.built 50 [(0, .string nm), (1, .string s)] = some #[.string nm, .string s] := by kernel_rfl
  have hc0 := cut_from a n c n (Nat.le_refl _) (n : Int) rfl
  rw [Nat.sub_self] at hc0
  rcases place_cases (same nm) l with ⟨h1, h2⟩ | ⟨k, x, h1, h2, h3, h4, h5⟩
  · obtain ⟨aB, haB⟩ : ∃ aB, aB = behindA a c n := ⟨_, rfl⟩
    obtain ⟨cB, hcB⟩ : ∃ cB, cB = c - n := ⟨_, rfl⟩
    obtain ⟨A, hA⟩ : ∃ A, A = l := ⟨_, rfl⟩
    obtain ⟨B, hB⟩ : ∃ B, B = ([] : List K) := ⟨_, rfl⟩
    
    have hAl : A.length = n := by rw [hA]; exact hn
    have hBl : B.length = 0 := by rw [hB]; rfl
    have hAr : CelR w a A := by rw [hA]; exact hr
    have hBr : CelR w aB B := by rw [hB, haB]; exact CelR.none _ _
    have hLe : L = toC (A ++ [(nm, s)]) ++ putF nm.data.toList s.data.toList true (toC B) := by
      rw [hL, hA, hB, put_none l nm s h2, toC_snoc]
      rw [show toC ([] : List K) = [] from rfl, putF_true_nil, List.append_nil]
    have R := Lib.hid (fun u (hu : Below w.heap.size w u) => find_any l nm (-1) n a c u h1.symm hn hn2 (hr.below hu))
    rw [← haB, ← hcB] at hc0
    have hmk := fun u => make_cel u n (n + 1) ((n : Int) + 1) (by omega) (by omega) (by omega)
    obtain ⟨Z, hZ⟩ : ∃ Z, Z = madeCells #[.string ⟨#[]⟩, .string ⟨#[]⟩] ((n + 1) * 2) := ⟨_, rfl⟩
    rw [← hZ] at hmk
    have hZs : Z.size = (n + 1) * 2 := by rw [hZ, size_madeCells]
    have hAB : n + 0 ≤ n := by omega
    have HL := Lib.hid (And.intro hLe hN)
    have HA := Lib.hid hAr
    have HBr := Lib.hid hBr
    have HAl := Lib.hid hAl
    have HBl := Lib.hid hBl
    have HZ := Lib.hid hZs
    have HNC := Lib.hid hnc
    clear hL hN hr hn hnc h1 h2  haB hcB hA hB  hAl hBl hAr hBr hLe hZ hZs
    go_enter Tryd.func12, Tryd.ntmps12
    go_upto_region 1 with (fail)
    go_quiet (fail)
    obtain ⟨wq, hwq⟩ : ∃ wq, wq = w.drewN nq := ⟨_, rfl⟩
    rw [← hwq]
    have HB0 := Lib.hid (show Below w.heap.size w wq from by rw [hwq]; exact belowN (Below.refl _ _) nq)
    clear hwq
    go_upto_region 6 with ((with_reducible refine (R.out _ HB0.out).mono ?_); rintro e w2 ⟨rfl, hb⟩; have HB := Lib.hid (HB0.out.trans (hb.mono HB0.out.size)); clear hb)
    have hg : (w2.alloc (.cells Z 50)).heap[w2.heap.size]? = some (.cells Z 50 (0, 0)) := _root_.Go.heap_alloc_new w2 _
    have HB3 := Lib.hid (HB.out.alloc HB.out.size (.cells Z 50))
    have hzb := HB.out.size
    obtain ⟨z, hz⟩ : ∃ z, z = w2.heap.size := ⟨_, rfl⟩
    rw [← hz] at hg hzb ⊢
    generalize w2.alloc (.cells Z 50) = w3 at *
    clear hz HB
    have HG := Lib.hid hg
    have HZB := Lib.hid hzb
    have hAr3 := Lib.hid (HA.out.below HB3.out)
    clear hg hzb
    go_upto_region 7 with ((with_reducible refine copy_cel rfl _ _ rfl w.heap.size z n (n + 1) _ Z a A rfl rfl HG.out HZ.out (by omega) (by omega) HAl.out hAr3.out HZB.out ?_); intro w4 hown4 hb4)
    have HO4 := Lib.hid hown4
    have HB4 := Lib.hid (HB3.out.trans hb4)
    clear hown4 hb4 HG HZB hAr3 HA HZ HB3
    have HB5 := Lib.hid (HB4.out.alloc HB4.out.size (.cells #[.string nm, .string s] 50))
    have HO5 := Lib.hid (Strs.own_below HO4.out ((Below.refl w4.heap.size w4).alloc (Nat.le_refl _) (.cells #[.string nm, .string s] 50)))
    go_wp2_with (at_builtin; refine append_cel rfl _ _ rfl w.heap.size n _ A rfl HO5.out w4.heap.size 1 (nm, s) rfl (new_cel w4 (nm, s) _) (by omega) HB5.out.size ?_; intro v' w6 hown6 hgrow6)
    have HO6 := Lib.hid hown6
    have HB6 := Lib.hid (HB5.out.grown hgrow6 HB5.out.size (fun q hq => (HO5.out.lt q hq).1))
    clear hown6 hgrow6 HO4 HO5 HB4 HB5
    go_loopw [10, 12, 47] (fun ov _ i wr => ∃ (j m : Nat) (acc : List K), j ≤ 0 ∧ i = .int .i64 j ∧ m ≤ n + 1 + j ∧ wr.ownsRow w.heap.size 50 2 ov m (cellsV acc) ∧ L = toC acc ++ putF nm.data.toList s.data.toList true (toC (B.drop j)) ∧ Below w.heap.size w wr) (fun _ _ i _ => 0 - (intOf i).toNat)
    case atStart => exact ⟨0, n + 1, A ++ [(nm, s)], by omega, rfl, by omega, HO6.out, HL.out.1, HB6.out⟩
    case round =>
      obtain ⟨j, m, acc, hj, rfl, hm, hown, hg, hb⟩ := hrel
      have HB := Lib.hid hb
      have HG := Lib.hid hg
      have HO := Lib.hid hown
      clear hb hg hown HB6 HO6
      by_cases hlt : j < 0
      · exact absurd hlt (by omega)
      · obtain rfl : j = 0 := by omega
        have hlt2 : ¬ ((0 : Int) < (0 : Int)) := by omega
        have hfin : L = toC acc := by
          rw [HG.out, List.drop_eq_nil_of_le (Nat.le_of_eq HBl.out), show toC ([] : List K) = [] from rfl, putF_true_nil, List.append_nil]
        obtain ⟨ao, co, rfl, hlen, hcel, hfr⟩ := own_cel HO.out
        obtain rfl : m = N := by rw [← HL.out.2, hfin, toC_length]; exact hlen
        have HC := Lib.hid (show CelR wr ao (ofC L) from by rw [hfin, ofC_toC]; exact hcel)
        have HF := Lib.hid hfr
        have HR := Lib.hid (own_room HO.out)
        clear hfin hlen hcel hfr
        go_wp2
        go_ret
        exact ⟨ao, ⟨co, rfl, HR.out, HC.out, HF.out, HB.out⟩⟩
  · obtain ⟨aB, haB⟩ : ∃ aB, aB = behindA a c (k + 1) := ⟨_, rfl⟩
    obtain ⟨cB, hcB⟩ : ∃ cB, cB = c - (k + 1) := ⟨_, rfl⟩
    obtain ⟨A, hA⟩ : ∃ A, A = l.take k := ⟨_, rfl⟩
    obtain ⟨B, hB⟩ : ∃ B, B = l.drop (k + 1) := ⟨_, rfl⟩
    obtain ⟨nB, hnB⟩ : ∃ nB, nB = n - (k + 1) := ⟨_, rfl⟩
    have hAl : A.length = k := by rw [hA]; rw [List.length_take]; omega
    have hBl : B.length = nB := by rw [hB]; rw [List.length_drop, hn, hnB]
    have hAr : CelR w a A := by rw [hA]; exact cel_take hr k
    have hBr : CelR w aB B := by rw [hB, haB]; exact cel_drop hr (by omega) (k + 1)
    have hLe : L = toC (A ++ [(nm, s)]) ++ putF nm.data.toList s.data.toList true (toC B) := by
      rw [hL, hA, hB, put_some l nm s k x h3 h4 h5, toC_snoc]
      simp
    have R := Lib.hid (fun u (hu : Below w.heap.size w u) => find_any l nm ((k : Int)) n a c u h1.symm hn hn2 (hr.below hu))
    have hc1 := cut_to a n c k (by omega)
    have hc2 := cut_from a n c (k + 1) (by omega) ((k : Int) + 1) (by omega)
    rw [← haB, ← hcB, ← hnB] at hc2
    have hmk := fun u => make_cel u k (n + 1) ((n : Int) + 1) (by omega) (by omega) (by omega)
    obtain ⟨Z, hZ⟩ : ∃ Z, Z = madeCells #[.string ⟨#[]⟩, .string ⟨#[]⟩] ((n + 1) * 2) := ⟨_, rfl⟩
    rw [← hZ] at hmk
    have hZs : Z.size = (n + 1) * 2 := by rw [hZ, size_madeCells]
    have hAB : k + nB ≤ n := by omega
    have HL := Lib.hid (And.intro hLe hN)
    have HA := Lib.hid hAr
    have HBr := Lib.hid hBr
    have HAl := Lib.hid hAl
    have HBl := Lib.hid hBl
    have HZ := Lib.hid hZs
    have HNC := Lib.hid hnc
    clear hL hN hr hn hnc h1 h2 h3 h4 h5 haB hcB hA hB hnB hAl hBl hAr hBr hLe hZ hZs
    go_enter Tryd.func12, Tryd.ntmps12
    go_upto_region 1 with (fail)
    go_quiet (fail)
    obtain ⟨wq, hwq⟩ : ∃ wq, wq = w.drewN nq := ⟨_, rfl⟩
    rw [← hwq]
    have HB0 := Lib.hid (show Below w.heap.size w wq from by rw [hwq]; exact belowN (Below.refl _ _) nq)
    clear hwq
    go_upto_region 4 with ((with_reducible refine (R.out _ HB0.out).mono ?_); rintro e w2 ⟨rfl, hb⟩; have HB := Lib.hid (HB0.out.trans (hb.mono HB0.out.size)); clear hb)
    go_quiet (fail)
    obtain ⟨wp, hwp⟩ : ∃ wp, wp = w2.drewN nq := ⟨_, rfl⟩
    rw [← hwp]
    have HB1 := Lib.hid (show Below w.heap.size w wp from by rw [hwp]; exact belowN HB.out nq)
    clear hwp HB
    have HB := HB1
    clear HB1
    clear w2
    generalize wp = w2 at *
    go_upto_region 6 with (fail)
    have hg : (w2.alloc (.cells Z 50)).heap[w2.heap.size]? = some (.cells Z 50 (0, 0)) := _root_.Go.heap_alloc_new w2 _
    have HB3 := Lib.hid (HB.out.alloc HB.out.size (.cells Z 50))
    have hzb := HB.out.size
    obtain ⟨z, hz⟩ : ∃ z, z = w2.heap.size := ⟨_, rfl⟩
    rw [← hz] at hg hzb ⊢
    generalize w2.alloc (.cells Z 50) = w3 at *
    clear hz HB
    have HG := Lib.hid hg
    have HZB := Lib.hid hzb
    have hAr3 := Lib.hid (HA.out.below HB3.out)
    clear hg hzb
    go_upto_region 7 with ((with_reducible refine copy_cel rfl _ _ rfl w.heap.size z k (n + 1) _ Z a A rfl rfl HG.out HZ.out (by omega) (by omega) HAl.out hAr3.out HZB.out ?_); intro w4 hown4 hb4)
    have HO4 := Lib.hid hown4
    have HB4 := Lib.hid (HB3.out.trans hb4)
    clear hown4 hb4 HG HZB hAr3 HA HZ HB3
    have HB5 := Lib.hid (HB4.out.alloc HB4.out.size (.cells #[.string nm, .string s] 50))
    have HO5 := Lib.hid (Strs.own_below HO4.out ((Below.refl w4.heap.size w4).alloc (Nat.le_refl _) (.cells #[.string nm, .string s] 50)))
    go_wp2_with (at_builtin; refine append_cel rfl _ _ rfl w.heap.size k _ A rfl HO5.out w4.heap.size 1 (nm, s) rfl (new_cel w4 (nm, s) _) (by omega) HB5.out.size ?_; intro v' w6 hown6 hgrow6)
    have HO6 := Lib.hid hown6
    have HB6 := Lib.hid (HB5.out.grown hgrow6 HB5.out.size (fun q hq => (HO5.out.lt q hq).1))
    clear hown6 hgrow6 HO4 HO5 HB4 HB5
    go_loopw [10, 12, 47] (fun ov _ i wr => ∃ (j m : Nat) (acc : List K), j ≤ nB ∧ i = .int .i64 j ∧ m ≤ k + 1 + j ∧ wr.ownsRow w.heap.size 50 2 ov m (cellsV acc) ∧ L = toC acc ++ putF nm.data.toList s.data.toList true (toC (B.drop j)) ∧ Below w.heap.size w wr) (fun _ _ i _ => nB - (intOf i).toNat)
    case atStart => exact ⟨0, k + 1, A ++ [(nm, s)], by omega, rfl, by omega, HO6.out, HL.out.1, HB6.out⟩
    case round =>
      obtain ⟨j, m, acc, hj, rfl, hm, hown, hg, hb⟩ := hrel
      have HB := Lib.hid hb
      have HG := Lib.hid hg
      have HO := Lib.hid hown
      clear hb hg hown HB6 HO6
      by_cases hlt : j < nB
      · have hjl : j < B.length := by have := HBl.out; omega
        obtain ⟨g, o, rfl, hgb, hc⟩ := HBr.out (by omega)
        obtain ⟨⟨X, D⟩, hx⟩ : ∃ x, B[j]? = some x := ⟨_, List.getElem?_eq_getElem hjl⟩
        have c1 : wr.cell? ⟨g, o + j * 2, none⟩ = some (.string X) := (HB.out.cell (p := ⟨g, o + j * 2, none⟩) hgb).trans (hc j _ hx).1
        have c2 : wr.cell? ⟨g, o + j * 2 + 1, none⟩ = some (.string D) := (HB.out.cell (p := ⟨g, o + j * 2 + 1, none⟩) hgb).trans (hc j _ hx).2
        have hg2 := HG.out
        rw [toC_drop B j _ hx, putF_cons] at hg2
        have HB2 := Lib.hid (HB.out.alloc HB.out.size (.cells #[.string X, .string D] 50))
        have HO2 := Lib.hid (Strs.own_below HO.out ((Below.refl wr.heap.size wr).alloc (Nat.le_refl _) (.cells #[.string X, .string D] 50)))
        by_cases he : X.data.toList = nm.data.toList
        · rw [if_pos he, if_pos rfl] at hg2
          have hq := eql_yes X nm he
          have hq2 : (!(X.toList == nm.toList)) = false := by rw [hq]; rfl
          have HG2 := Lib.hid hg2
          clear hjl hgb hc hx he hg2
          go_wp2
          go_roundw
          case rel => exact ⟨j + 1, m, acc, by omega, by go_num, by omega, HO2.out, HG2.out, HB2.out⟩
          case measure => simp [intOf]; omega
        · rw [if_neg he] at hg2
          have HG2 := Lib.hid (show L = toC (acc ++ [(X, D)]) ++ putF nm.data.toList s.data.toList true (toC (B.drop (j + 1))) from by rw [hg2, toC_snoc]; simp)
          have hq := eql_no X nm he
          have hq2 : (!(X.toList == nm.toList)) = true := by rw [hq]; rfl
          clear hjl hgb hc hx he hg2
          go_upto_region 11 with (fail)
          have hcA : (wr.alloc (.cells #[.string X, .string D] 50)).cell? ⟨wr.heap.size, 0, none⟩ = some (.string X) := new_cel wr (X, D) _ 0 _ rfl
          have hcD : (wr.alloc (.cells #[.string X, .string D] 50)).cell? ⟨wr.heap.size, 1, none⟩ = some (.string D) := new_cel wr (X, D) _ 1 _ rfl
          obtain ⟨z2, hz2⟩ : ∃ z, z = wr.heap.size := ⟨_, rfl⟩
          rw [← hz2] at hcA hcD ⊢
          generalize wr.alloc (.cells #[.string X, .string D] 50) = w7 at *
          have HB3 := Lib.hid (HB2.out.alloc HB2.out.size (.cells #[.string X, .string D] 50))
          have HO3 := Lib.hid (Strs.own_below HO2.out ((Below.refl w7.heap.size w7).alloc (Nat.le_refl _) (.cells #[.string X, .string D] 50)))
          clear hz2
          go_wp2_with (at_builtin; refine append_cel rfl _ _ rfl w.heap.size m _ acc rfl HO3.out w7.heap.size 1 (X, D) rfl (new_cel w7 (X, D) _) (by omega) HB3.out.size ?_; intro v' w8 hown8 hgrow8)
          have HO8 := Lib.hid hown8
          have HB8 := Lib.hid (HB3.out.grown hgrow8 HB3.out.size (fun q hq => (HO3.out.lt q hq).1))
          clear hown8 hgrow8
          go_wp2
          go_roundw
          case rel => exact ⟨j + 1, m + 1, acc ++ [(X, D)], by omega, by go_num, by omega, HO8.out, HG2.out, HB8.out⟩
          case measure => simp [intOf]; omega
      · obtain rfl : j = nB := by omega
        have hlt2 : ¬ ((j : Int) < (j : Int)) := by omega
        have hfin : L = toC acc := by
          rw [HG.out, List.drop_eq_nil_of_le (Nat.le_of_eq HBl.out), show toC ([] : List K) = [] from rfl, putF_true_nil, List.append_nil]
        obtain ⟨ao, co, rfl, hlen, hcel, hfr⟩ := own_cel HO.out
        obtain rfl : m = N := by rw [← HL.out.2, hfin, toC_length]; exact hlen
        have HC := Lib.hid (show CelR wr ao (ofC L) from by rw [hfin, ofC_toC]; exact hcel)
        have HF := Lib.hid hfr
        have HR := Lib.hid (own_room HO.out)
        clear hfin hlen hcel hfr
        go_wp2
        go_ret
        exact ⟨ao, ⟨co, rfl, HR.out, HC.out, HF.out, HB.out⟩⟩
end Go.Proofs.YtpamdpfgcbadhaaDoor.Tape
