/-
  The document's own answers for cells as bytes (Print, Read) of layer 15 are what the plain mathematics of the text Tap says; all memory that was there is left as it was. Conditions: a list is read in memory (CelR) and has at most 1000000 cells; a text has at most 10^9 bytes.
-/
import Derived.Test.YtpamdpfgcbadhaaDoorRTpC
import Derived.Test.YtpamdpfgcbadhaaDoorSteady
import Derived.BigQuiet
namespace Go.Proofs.YtpamdpfgcbadhaaDoor.RTap
open Go.RowKit Mur Prt Lanes Tap Cel
set_option maxRecDepth 100000
set_option linter.unusedSimpArgs false

theorem high_two (n : Nat) : high n 2 = [UInt8.ofNat (n / 256), UInt8.ofNat n] := by simp [high, List.range_succ]
theorem two_conv (w : World) (a b : Nat) (ha : a < 256) (hb : b < 256) (x y : Int) (hx : x = (a : Int)) (hy : y = (b : Int)) : (convert 51 9 (.slice (some ⟨w.heap.size, 0, none⟩) 2 2)).run Tryd.prog (w.alloc (.cells #[.int .u8 x, .int .u8 y] 5)) = .ok (.string (tx [UInt8.ofNat a, UInt8.ofNat b])) (w.alloc (.cells #[.int .u8 x, .int .u8 y] 5)) := by
  have := bytes_conv w [UInt8.ofNat a, UInt8.ofNat b] 2 rfl
  have e : bytesV [UInt8.ofNat a, UInt8.ofNat b] = [.int .u8 x, .int .u8 y] := by
    show [Value.int .u8 ((UInt8.ofNat a).toNat : Int), Value.int .u8 ((UInt8.ofNat b).toNat : Int)] = _
    rw [UInt8.toNat_ofNat', UInt8.toNat_ofNat', Nat.mod_eq_of_lt ha, Nat.mod_eq_of_lt hb, hx, hy]
  rw [e] at this
  exact this

theorem glued (t : ByteArray) (a b : List UInt8) : t ++ (tx a ++ tx b) = tx (t.data.toList ++ (a ++ b)) := by
  rw [tx_append a b]
  exact (congrArg (fun y => y ++ tx (a ++ b)) (Cel.tx_data t).symm).trans (tx_append t.data.toList (a ++ b))
theorem tell_parts (s : ByteArray) : tx (tell s.data.toList) = tx [UInt8.ofNat (s.size / 256), UInt8.ofNat (s.size % 256)] ++ s := by
  have e : UInt8.ofNat (s.size % 256) = UInt8.ofNat s.size := by
    apply UInt8.toNat_inj.1
    rw [UInt8.toNat_ofNat', UInt8.toNat_ofNat']
    omega
  rw [tell, high_two, e, ← tx_append, Cel.tx_data]
  rfl

set_option maxHeartbeats 800000 in
theorem byteText_any (s X : ByteArray) (w : World) (hX : X = tx (tell s.data.toList)) (hs : s.size ≤ 6000) :
    Calls Tryd.prog 42 #[.string s] w fun e w' => e = .returned (.string X) ∧ Below w.heap.size w w' := by
  have hp : (2 : Int) ^ 8 = 256 := by decide
  obtain ⟨H, hH⟩ : ∃ H, H = tx [UInt8.ofNat (s.size / 256), UInt8.ofNat (s.size % 256)] := ⟨_, rfl⟩
  have hcv := two_conv w (s.size / 256) (s.size % 256) (by omega) (by omega) ((s.size : Int) / 256) ((s.size : Int) % 256) (by omega) (by omega)
  rw [← hH] at hcv
  have hap : H ++ s = X := by rw [hX, tell_parts, hH]
  have hbig : ¬ 9223372036854775807 < H.size + s.size := by
    rw [hH]
    show ¬ 9223372036854775807 < 2 + s.size
    omega
  have HB := Lib.hid ((Below.refl w.heap.size w).alloc (Nat.le_refl _) (.cells #[.int .u8 ((s.size : Int) / 256), .int .u8 ((s.size : Int) % 256)] 5))
  clear hX hH
  go_enter Tryd.func42, Tryd.ntmps42
  go_wp2
  go_ret
  exact ⟨rfl, HB.out⟩

/-- What is told of an outcome in bytes. -/
def outX (r : Except Nat (List UInt8)) : ByteArray := match r with
  | .ok a => tx a
  | .error _ => ⟨#[]⟩
def outE {α : Type} (r : Except Nat α) : Int := match r with
  | .ok _ => 0
  | .error e => e
theorem load_cell {P : Program} {w : World} {op : Oper} {a : Act} {p : Addr} {ty : TypeId} {c : Value} {x : Operand} (ho : op.op = .load ty x) (hx : a.eval x = .pointer (some p)) (hc : w.cell? p = some c) (hr : Hold.TyCell P ty) : (execOp a.eval op).run P w = .ok (.value c) w := by
  obtain ⟨d, hu, hd, hs⟩ := hr
  have hagg : (isAgg ty).run P w = .ok false w := by
    unfold isAgg
    rw [Sem.run_bind, run_underlying hu w]
    cases d <;> simp_all
  unfold execOp
  simp [ho, hx, Instr.loadAt, Instr.sureAddr, Sem.run_bind, loadVar, hagg, hc]

set_option maxHeartbeats 3200000 in
theorem print_any (l : List K) (n : Nat) (a : Option Addr) (c : Nat) (X : ByteArray) (E : Int) (w : World) (hX : X = outX (print (toC l))) (hE : E = outE (print (toC l))) (hr : CelR w a l) (hn : l.length = n) (hn2 : n ≤ 9223372036854775807) :
    Calls Tryd.prog 31 #[.slice a n c] w fun e w' => e = .returned (.tuple #[.string X, .int .i64 E]) ∧ Below w.heap.size w w' := by
  by_cases hm : 1000 < n
  · have hp : print (toC l) = .error 4 := by rw [print, if_pos (by rw [toC_length, hn]; exact hm)]
    rw [hp] at hX hE
    obtain rfl : X = ⟨#[]⟩ := hX
    obtain rfl : E = 4 := hE
    have hd : decide (1000 < (n : Int)) = true := decide_eq_true (by omega)
    clear hp hr hn
    go_enter Tryd.func31, Tryd.ntmps31
    go_wp2
    go_ret2
    exact ⟨rfl, Below.refl _ _⟩
  have hp : print (toC l) = each layC (toC l) := by rw [print, if_neg (by rw [toC_length, hn]; exact hm)]
  have hd : decide (1000 < (n : Int)) = false := decide_eq_false (by omega)
  have hd2 : decide (1000 < n) = false := decide_eq_false hm
  rw [hp] at hX hE
  have HX := Lib.hid (And.intro hX hE)
  have HR := Lib.hid hr
  have HN := Lib.hid hn
  clear hX hE hr hn hp
  go_enter Tryd.func31, Tryd.ntmps31
  go_wp2
  go_loopw [4, 12] (fun ov i wr => ∃ (j : Nat) (t : ByteArray), j ≤ n ∧ ov = .string t ∧ i = .int .i64 j ∧ t.size ≤ 6204 * j ∧ each layC (toC l) = Prt.ahead t.data.toList (each layC (toC (l.drop j))) ∧ Below w.heap.size w wr) (fun _ i _ => n - (intOf i).toNat)
  case atStart => exact ⟨0, ⟨#[]⟩, by omega, rfl, rfl, by simp [ByteArray.size], by show _ = Prt.ahead [] (each layC (toC l)); cases each layC (toC l) <;> rfl, Below.refl _ _⟩
  case round =>
    obtain ⟨j, t, hj, rfl, rfl, hts, hg, hb⟩ := hrel
    have HB := Lib.hid hb
    have HG := Lib.hid hg
    have HT := Lib.hid hts
    clear hb hg hts
    by_cases hlt : j < n
    · have hjl : j < l.length := by have := HN.out; omega
      obtain ⟨g, o, rfl, hgb, hc⟩ := HR.out (by omega)
      obtain ⟨⟨A, D⟩, hx⟩ : ∃ x, l[j]? = some x := ⟨_, List.getElem?_eq_getElem hjl⟩
      have c1 : wr.cell? ⟨g, o + j * 2, none⟩ = some (.string A) := (HB.out.cell (p := ⟨g, o + j * 2, none⟩) hgb).trans (hc j _ hx).1
      have c2 : wr.cell? ⟨g, o + j * 2 + 1, none⟩ = some (.string D) := (HB.out.cell (p := ⟨g, o + j * 2 + 1, none⟩) hgb).trans (hc j _ hx).2
      have hg2 := HG.out
      rw [toC_drop l j _ hx] at hg2
      have HG2 := Lib.hid hg2
      have HB2 := Lib.hid (HB.out.alloc HB.out.size (.cells #[.string A, .string D] 50))
      clear hjl hgb hc hx hg2
      have hcA : (wr.alloc (.cells #[.string A, .string D] 50)).cell? ⟨wr.heap.size, 0, none⟩ = some (.string A) := new_cel wr (A, D) _ 0 _ rfl
      have hcD : (wr.alloc (.cells #[.string A, .string D] 50)).cell? ⟨wr.heap.size, 1, none⟩ = some (.string D) := new_cel wr (A, D) _ 1 _ rfl
      have hzl : wr.heap.size < (wr.alloc (.cells #[.string A, .string D] 50)).heap.size := by simp
      go_upto_region 7 with (fail)
      obtain ⟨z, hz⟩ : ∃ z, z = wr.heap.size := ⟨_, rfl⟩
      rw [← hz] at hcA hcD hzl ⊢
      generalize wr.alloc (.cells #[.string A, .string D] 50) = w2 at *
      clear hz c1 c2
      by_cases hok : okC (A.data.toList, D.data.toList) = true
      · have ho := (okC_iff _).1 hok
        have ho1 : 1 ≤ A.size ∧ A.size ≤ 200 ∧ D.size ≤ 6000 := ho
        have hl : layC (A.data.toList, D.data.toList) = .ok (tell A.data.toList ++ tell D.data.toList) := by rw [layC, if_pos hok]
        obtain ⟨TA, hTA⟩ : ∃ TA, TA = tx (tell A.data.toList) := ⟨_, rfl⟩
        obtain ⟨TD, hTD⟩ : ∃ TD, TD = tx (tell D.data.toList) := ⟨_, rfl⟩
        have sA : TA.size = 2 + A.size := by rw [hTA, tx_size, tell_length]; rfl
        have sD : TD.size = 2 + D.size := by rw [hTD, tx_size, tell_length]; rfl
        have hnx : each layC (toC l) = Prt.ahead (t ++ (TA ++ TD)).data.toList (each layC (toC (l.drop (j + 1)))) := by
          have := HG2.out
          rw [each_ok layC _ _ _ hl, ahead_ahead] at this
          rw [this, hTA, hTD]
          have e : t ++ (tx (tell A.data.toList) ++ tx (tell D.data.toList)) = tx (t.data.toList ++ (tell A.data.toList ++ tell D.data.toList)) := glued t _ _
          rw [e]
        have R1 := Lib.hid (fun u => byteText_any A TA u hTA (by omega))
        have R2 := Lib.hid (fun u => byteText_any D TD u hTD (by omega))
        have HNX := Lib.hid hnx
        have d1 : decide ((A.size : Int) < 1) = false := decide_eq_false (by omega)
        have d1b : decide (A.size < 1) = false := decide_eq_false (by omega)
        have d2 : decide (200 < (A.size : Int)) = false := decide_eq_false (by omega)
        have d2b : decide (200 < A.size) = false := decide_eq_false (by omega)
        have d3 : decide (6000 < (D.size : Int)) = false := decide_eq_false (by omega)
        have d3b : decide (6000 < D.size) = false := decide_eq_false (by omega)
        have g1 : ¬ 9223372036854775807 < TA.size + TD.size := by omega
        have g2 : ¬ 9223372036854775807 < t.size + (TA.size + TD.size) := by
          have := HT.out
          omega
        have hsz : (t ++ (TA ++ TD)).size ≤ 6204 * (j + 1) := by
          rw [ByteArray.size_append, ByteArray.size_append]
          have := HT.out
          omega
        have HSZ := Lib.hid hsz
        clear hok ho ho1 hl hTA hTD hnx sA sD hsz
        go_upto_region 9 with (fail)
        clear d1 d1b d2 d2b d3 d3b
        have FC := Lib.hid (fun (u : World) (hu : Below w2.drew.heap.size w2.drew u) => (show u.cell? ⟨z, 0, none⟩ = some (.string A) ∧ u.cell? ⟨z, 1, none⟩ = some (.string D) from ⟨(hu.cell (p := ⟨z, 0, none⟩) hzl).trans hcA, (hu.cell (p := ⟨z, 1, none⟩) hzl).trans hcD⟩))
        have HB3 := Lib.hid HB2.out.drew
        clear hcA hcD hzl HB2
        refine Steady.region 9 (by kernel_rfl) (by as_aux_lemma => kernel_rfl) (fun u => Below w2.drew.heap.size w2.drew u) (Below.refl _ _) ?_
        simp only [List.take_succ_cons, List.take_zero, List.drop_succ_cons, List.drop_zero]
        refine Steady.take ?_ rfl (by intro u hu; go_simp; with_reducible rfl) ?_
        simp only [Act.put, List.setIfInBounds_toArray, List.set_cons_zero, List.set_cons_succ]
        refine Steady.take ?_ rfl (by intro u hu; go_simp; with_reducible rfl) ?_
        simp only [Act.put, List.setIfInBounds_toArray, List.set_cons_zero, List.set_cons_succ]
        refine Steady.take (.string A) rfl (fun u hu => load_cell rfl rfl (FC.out u hu).1 Cel.cellStr) ?_
        simp only [Act.put, List.setIfInBounds_toArray, List.set_cons_zero, List.set_cons_succ]
        refine Steady.call _ _ _ rfl ?_ (Steady.kept R1.out) ?_
        · intro u
          go_simp
        simp only [Act.put, List.setIfInBounds_toArray, List.set_cons_zero, List.set_cons_succ]
        refine Steady.take ?_ rfl (by intro u hu; go_simp; with_reducible rfl) ?_
        simp only [Act.put, List.setIfInBounds_toArray, List.set_cons_zero, List.set_cons_succ]
        refine Steady.take (.string D) rfl (fun u hu => load_cell rfl rfl (FC.out u hu).2 Cel.cellStr) ?_
        simp only [Act.put, List.setIfInBounds_toArray, List.set_cons_zero, List.set_cons_succ]
        refine Steady.call _ _ _ rfl ?_ (Steady.kept R2.out) ?_
        · intro u
          go_simp
        simp only [Act.put, List.setIfInBounds_toArray, List.set_cons_zero, List.set_cons_succ]
        refine Steady.take ?_ rfl (by intro u hu; go_simp; with_reducible rfl) ?_
        simp only [Act.put, List.setIfInBounds_toArray, List.set_cons_zero, List.set_cons_succ]
        refine Steady.take ?_ rfl (by intro u hu; go_simp; with_reducible rfl) ?_
        simp only [Act.put, List.setIfInBounds_toArray, List.set_cons_zero, List.set_cons_succ]

        refine Steady.nil ?_
        intro w3 hb3
        have HB4 := Lib.hid (HB3.out.trans (hb3.mono HB3.out.size))
        clear hb3
        go_wp2
        go_roundw
        case rel => exact ⟨j + 1, t ++ (TA ++ TD), by omega, rfl, by go_num, HSZ.out, HNX.out, HB4.out⟩
        case measure => simp [intOf]; omega
      · have hok2 : okC (A.data.toList, D.data.toList) = false := by simpa using hok
        have hl : layC (A.data.toList, D.data.toList) = .error 4 := by rw [layC, if_neg hok]
        have hfin : each layC (toC l) = .error 4 := by
          have := HG2.out
          rwa [each_error layC _ _ 4 hl] at this
        obtain ⟨rfl, rfl⟩ : X = ⟨#[]⟩ ∧ E = 4 := by
          rw [HX.out.1, HX.out.2, hfin]
          exact ⟨rfl, rfl⟩
        have hno : ¬ (1 ≤ A.size ∧ A.size ≤ 200 ∧ D.size ≤ 6000) := fun k => hok ((okC_iff _).2 k)
        clear hok hok2 hl hfin
        by_cases k1 : A.size < 1
        · have d1 : decide ((A.size : Int) < 1) = true := decide_eq_true (by omega)
          have d1b : decide (A.size < 1) = true := decide_eq_true k1
          clear hno
          go_wp2
          go_ret2
          exact ⟨rfl, HB2.out⟩
        · have d1 : decide ((A.size : Int) < 1) = false := decide_eq_false (by omega)
          have d1b : decide (A.size < 1) = false := decide_eq_false k1
          by_cases k2 : 200 < A.size
          · have d2 : decide (200 < (A.size : Int)) = true := decide_eq_true (by omega)
            have d2b : decide (200 < A.size) = true := decide_eq_true k2
            clear hno
            go_wp2
            go_ret2
            exact ⟨rfl, HB2.out⟩
          · have d2 : decide (200 < (A.size : Int)) = false := decide_eq_false (by omega)
            have d2b : decide (200 < A.size) = false := decide_eq_false k2
            have d3 : decide (6000 < (D.size : Int)) = true := decide_eq_true (by omega)
            have d3b : decide (6000 < D.size) = true := decide_eq_true (by omega)
            clear hno
            go_wp2
            go_ret2
            exact ⟨rfl, HB2.out⟩
    · obtain rfl : j = n := by omega
      have hlt2 : ¬ ((j : Int) < (j : Int)) := by omega
      have hfin : each layC (toC l) = .ok t.data.toList := by
        rw [HG.out, toC_done l j HN.out, each_nil, ahead_ok, List.append_nil]
      obtain ⟨rfl, rfl⟩ : X = t ∧ E = 0 := by
        rw [HX.out.1, HX.out.2, hfin]
        exact ⟨Cel.tx_data t, rfl⟩
      clear hfin
      go_wp2
      go_ret2
      exact ⟨rfl, HB.out⟩
end Go.Proofs.YtpamdpfgcbadhaaDoor.RTap
