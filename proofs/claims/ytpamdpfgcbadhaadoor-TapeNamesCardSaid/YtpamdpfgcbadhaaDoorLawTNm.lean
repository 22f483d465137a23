/-
  TapeNames: names of four small numbers are alike exactly where the numbers are: for every eight numbers the law answers true and changes nothing that was there. Condition: the listed tables hold what the program lays there.
-/
import Derived.Test.YtpamdpfgcbadhaaDoorTnm
import Derived.Test.YtpamdpfgcbadhaaDoorTpK
namespace Go.Proofs.YtpamdpfgcbadhaaDoor.LawTNm
open Go.ChangeShapes Go.WideShapes Go.ChangeAt Go.RowKit Mur Prt Tap Cel TNm
open Go.ChangeMaps (open_string shut_string)
set_option maxRecDepth 100000
set_option linter.unusedSimpArgs false

theorem cellInt : Hold.TyCell Tryd.prog 3 := ⟨_, Tryd.underlying3, rfl, by kernel_rfl⟩
theorem fourRow : Hold.TyRow Tryd.prog 24 4 := ⟨_, Tryd.underlying24, rfl, by kernel_rfl⟩
set_option maxHeartbeats 6400000 in
theorem walk (a0 a1 a2 a3 b0 b1 b2 b3 : Int) (w0 : World) (hp : Tape.Pow w0) :
    Calls Tryd.prog 5 #[.agg #[.int .i64 a0, .int .i64 a1, .int .i64 a2, .int .i64 a3], .agg #[.int .i64 b0, .int .i64 b1, .int .i64 b2, .int .i64 b3]] w0 fun e w' => e = .returned (.bool true) ∧ Below w0.heap.size w0 w' := by
  have RA := Lib.hid (fun u (hu : Below w0.heap.size w0 u) => TpW.awake_any u (hp.below hu))
  replace hp := Lib.hid hp
  have HM := Lib.hid (Hold.Hld.start w0)
  obtain ⟨A0, lA0, eA0⟩ := rest_of a0
  obtain ⟨A1, lA1, eA1⟩ := rest_of a1
  obtain ⟨A2, lA2, eA2⟩ := rest_of a2
  obtain ⟨A3, lA3, eA3⟩ := rest_of a3
  obtain ⟨B0, lB0, eB0⟩ := rest_of b0
  obtain ⟨B1, lB1, eB1⟩ := rest_of b1
  obtain ⟨B2, lB2, eB2⟩ := rest_of b2
  obtain ⟨B3, lB3, eB3⟩ := rest_of b3
  have MA := Lib.hid (mix_step [a0, a1, a2, a3] [A0, A1, A2, A3] rfl rfl (by intro i hi; match i, hi with | 0, _ => exact eA0 | 1, _ => exact eA1 | 2, _ => exact eA2 | 3, _ => exact eA3))
  have MB := Lib.hid (mix_step [b0, b1, b2, b3] [B0, B1, B2, B3] rfl rfl (by intro i hi; match i, hi with | 0, _ => exact eB0 | 1, _ => exact eB1 | 2, _ => exact eB2 | 3, _ => exact eB3))
  clear eA0 eA1 eA2 eA3
  replace lA0 := Lib.hid lA0
  replace lA1 := Lib.hid lA1
  replace lA2 := Lib.hid lA2
  replace lA3 := Lib.hid lA3
  clear eB0 eB1 eB2 eB3
  replace lB0 := Lib.hid lB0
  replace lB1 := Lib.hid lB1
  replace lB2 := Lib.hid lB2
  replace lB3 := Lib.hid lB3
  go_enter Tryd.func5, Tryd.ntmps5
  go_upto_region 2 with ((first
    | (with_reducible refine Hold.box HM.out rfl rfl rfl ?_; clear HM; intro p w HM; simp only [List.nil_append] at HM; replace HM := Lib.hid HM)
    | (with_reducible refine Hold.box HM.out rfl rfl rfl ?_; clear HM; intro q w HM; simp only [List.nil_append, List.cons_append] at HM; replace HM := Lib.hid HM)))
  go_loopw [5, 10] (fun _ i w' => ∃ k : Nat, k ≤ 4 ∧ i = .int .i64 k ∧ Hold.Hld w0 [⟨p, 24, mixV [a0, a1, a2, a3] [A0, A1, A2, A3] k⟩, ⟨q, 24, mixV [b0, b1, b2, b3] [B0, B1, B2, B3] k⟩] w') (fun _ i _ => 4 - (intOf i).toNat)
  case atStart => exact ⟨0, by omega, rfl, HM.out⟩
  case round =>
    obtain ⟨k, hk4, rfl, hm⟩ := hrel
    clear HM
    have HM := Lib.hid hm
    clear hm
    by_cases hlt : k < 4
    · have hd2 : decide ((k : Int) < 4) = true := by simp; omega
      obtain ⟨x, n, gx, wx, nx, lx⟩ := MA.out k hlt
      obtain ⟨y, m, gy, wy, ny, ly⟩ := MB.out k hlt
      have i0 : (0 : Int) ≤ k := by omega
      have i1 : (k : Int) < 4 := by omega
      have i2 : (k : Int).toNat = k := by omega
      have f : wr.cell? ⟨p, k, none⟩ = some (.int .i64 x) := (HM.out.at 0 rfl).row.cell gx
      have g : wr.cell? ⟨q, k, none⟩ = some (.int .i64 y) := (HM.out.at 1 rfl).row.cell gy
      have ff : wr.frozen? ⟨p, k, none⟩ = false := (HM.out.at 0 rfl).row.free (by show k < _; rw [lx]; exact hlt)
      have gf : wr.frozen? ⟨q, k, none⟩ = false := (HM.out.at 1 rfl).row.free (by show k < _; rw [ly]; exact hlt)
      have hpq : p ≠ q := by
        have := HM.out.own
        simp at this
        exact this
      have hqp : q ≠ p := fun h => hpq h.symm
      have d1 := HM.out.whole _ (List.mem_cons_self ..)
      replace gx := Lib.hid gx
      replace gy := Lib.hid gy
      replace nx := Lib.hid nx
      replace ny := Lib.hid ny
      replace lx := Lib.hid lx
      replace ly := Lib.hid ly
      clear d1
      go_upto_region 4 with (fail)
      go_region
      have HZ := Lib.hid (set_two HM.out nx.out ny.out).drew
      generalize ((wr.setCell ⟨p, k, none⟩ (.int .i64 n)).setCell ⟨q, k, none⟩ (.int .i64 m)).drew = wz at *
      clear f g ff gf HM wx wy gx gy nx ny lx ly i0 i2 hd2
      go_wp2
      go_roundw
      case rel => exact ⟨k + 1, by omega, by simp, HZ.out⟩
      case measure =>
        first | omega | (simp; omega) | (simp [intOf]; omega)
    · have hd2 : decide ((k : Int) < 4) = false := by simp; omega
      have hk : k = 4 := by omega
      have hm := HM.out
      rw [hk] at hm
      clear HM hlt hk4
      have HM : Hid (Hold.Hld w0 [⟨p, 24, [.int .i64 (A0 : Int), .int .i64 (A1 : Int), .int .i64 (A2 : Int), .int .i64 (A3 : Int)]⟩, ⟨q, 24, [.int .i64 (B0 : Int), .int .i64 (B1 : Int), .int .i64 (B2 : Int), .int .i64 (B3 : Int)]⟩] wr) := Lib.hid hm
      clear hm
      clear MA MB
      go_upto_region 6 with (fail)
      have gA0 := lA0.out
      have gA1 := lA1.out
      have gA2 := lA2.out
      have gA3 := lA3.out
      obtain ⟨PA, hPA⟩ : ∃ X, X = tx (joined [112, 97, 100] [(A0 : Int), (A1 : Int), (A2 : Int), (A3 : Int)]) := ⟨_, rfl⟩
      obtain ⟨MA, hMA⟩ : ∃ X, X = tx (joined [109, 97, 115, 107] [(A0 : Int), (A1 : Int), (A2 : Int)]) := ⟨_, rfl⟩
      obtain ⟨UA, hUA⟩ : ∃ X, X = tx (joined [112] [(A0 : Int), (A1 : Int)]) := ⟨_, rfl⟩
      obtain ⟨SA, hSA⟩ : ∃ X, X = tx (joined ([115, 105, 103, 32] ++ UA.data.toList) [(A2 : Int)]) := ⟨_, rfl⟩
      obtain ⟨DA, hDA⟩ : ∃ X, X = tx (dec (A0 : Int)) := ⟨_, rfl⟩
      have uA := name_short UA A0 A1 hUA gA0 gA1
      have RPA := Lib.hid (fun u (hu : Below w0.heap.size w0 u) => Tape.padName_any A0 A1 A2 A3 PA u hPA (by omega) (by omega) (by omega) (by omega) (by omega) (by omega) (by omega) (by omega) (hp.out.below hu))
      have RMA := Lib.hid (fun u (hu : Below w0.heap.size w0 u) => Tape.maskName_any A0 A1 A2 MA u hMA (by omega) (by omega) (by omega) (by omega) (by omega) (by omega) (hp.out.below hu))
      have RUA := Lib.hid (fun u (hu : Below w0.heap.size w0 u) => Tape.pseudonym_any A0 A1 UA u hUA (by omega) (by omega) (by omega) (by omega) (hp.out.below hu))
      have RSA := Lib.hid (fun u (hu : Below w0.heap.size w0 u) => Tape.sigName_any UA A2 SA u hSA (by omega) (by omega) (by omega) (hp.out.below hu))
      have RDA := Lib.hid (fun u (hu : Below w0.heap.size w0 u) => Tape.dec_any A0 DA u hDA (by omega) (by omega) (hp.out.below hu))
      have gB0 := lB0.out
      have gB1 := lB1.out
      have gB2 := lB2.out
      have gB3 := lB3.out
      obtain ⟨PB, hPB⟩ : ∃ X, X = tx (joined [112, 97, 100] [(B0 : Int), (B1 : Int), (B2 : Int), (B3 : Int)]) := ⟨_, rfl⟩
      obtain ⟨MB, hMB⟩ : ∃ X, X = tx (joined [109, 97, 115, 107] [(B0 : Int), (B1 : Int), (B2 : Int)]) := ⟨_, rfl⟩
      obtain ⟨UB, hUB⟩ : ∃ X, X = tx (joined [112] [(B0 : Int), (B1 : Int)]) := ⟨_, rfl⟩
      obtain ⟨SB, hSB⟩ : ∃ X, X = tx (joined ([115, 105, 103, 32] ++ UB.data.toList) [(B2 : Int)]) := ⟨_, rfl⟩
      obtain ⟨DB, hDB⟩ : ∃ X, X = tx (dec (B0 : Int)) := ⟨_, rfl⟩
      have uB := name_short UB B0 B1 hUB gB0 gB1
      have RPB := Lib.hid (fun u (hu : Below w0.heap.size w0 u) => Tape.padName_any B0 B1 B2 B3 PB u hPB (by omega) (by omega) (by omega) (by omega) (by omega) (by omega) (by omega) (by omega) (hp.out.below hu))
      have RMB := Lib.hid (fun u (hu : Below w0.heap.size w0 u) => Tape.maskName_any B0 B1 B2 MB u hMB (by omega) (by omega) (by omega) (by omega) (by omega) (by omega) (hp.out.below hu))
      have RUB := Lib.hid (fun u (hu : Below w0.heap.size w0 u) => Tape.pseudonym_any B0 B1 UB u hUB (by omega) (by omega) (by omega) (by omega) (hp.out.below hu))
      have RSB := Lib.hid (fun u (hu : Below w0.heap.size w0 u) => Tape.sigName_any UB B2 SB u hSB (by omega) (by omega) (by omega) (hp.out.below hu))
      have RDB := Lib.hid (fun u (hu : Below w0.heap.size w0 u) => Tape.dec_any B0 DB u hDB (by omega) (by omega) (hp.out.below hu))
      have QP := pad_same A0 A1 A2 A3 B0 B1 B2 B3 PA PB hPA hPB
      have QM := mask_same A0 A1 A2 B0 B1 B2 MA MB hMA hMB
      have QS := sig_same A0 A1 A2 B0 B1 B2 UA UB SA SB hUA hUB hSA hSB
      have QD := dec_same A0 B0 DA DB hDA hDB
      clear hPA hPB hMA hMB hUA hUB hSA hSB hDA hDB uA uB gA0 gA1 gA2 gA3 gB0 gB1 gB2 gB3
      obtain ⟨xv, hxv⟩ : ∃ v, v = (decide ((A0 : Int) = B0) && (decide ((A1 : Int) = B1) && (decide ((A2 : Int) = B2) && decide ((A3 : Int) = B3)))) := ⟨_, rfl⟩
      obtain ⟨sv, hsv⟩ : ∃ v, v = (decide ((A0 : Int) = B0) && (decide ((A1 : Int) = B1) && decide ((A2 : Int) = B2))) := ⟨_, rfl⟩
      obtain ⟨dv, hdv⟩ : ∃ v, v = decide ((A0 : Int) = B0) := ⟨_, rfl⟩
      rw [← hxv] at QP
      rw [← hsv] at QM QS
      rw [← hdv] at QD
      replace hxv := Lib.hid hxv
      replace hsv := Lib.hid hsv
      replace hdv := Lib.hid hdv
      refine Steady.region 19 (by kernel_rfl) (by kernel_rfl) (fun u => Hold.Hld _ _ u) HM.out.drew ?_
      simp only [List.take_succ_cons, List.take_zero, List.drop_succ_cons, List.drop_zero]
      refine Steady.take ?_ rfl (by intro u hu; go_simp; with_reducible rfl) ?_
      simp only [Act.put, List.setIfInBounds_toArray, List.set_cons_zero, List.set_cons_succ]
      refine Steady.take (.int .i64 (A0 : Int)) rfl (fun u hu => Hold.load1_run hu 0 rfl rfl rfl (rfl) (cellInt)) ?_
      simp only [Act.put, List.setIfInBounds_toArray, List.set_cons_zero, List.set_cons_succ]
      refine Steady.take ?_ rfl (by intro u hu; go_simp; with_reducible rfl) ?_
      simp only [Act.put, List.setIfInBounds_toArray, List.set_cons_zero, List.set_cons_succ]
      refine Steady.take (.int .i64 (A1 : Int)) rfl (fun u hu => Hold.load1_run hu 0 rfl rfl rfl (rfl) (cellInt)) ?_
      simp only [Act.put, List.setIfInBounds_toArray, List.set_cons_zero, List.set_cons_succ]
      refine Steady.take ?_ rfl (by intro u hu; go_simp; with_reducible rfl) ?_
      simp only [Act.put, List.setIfInBounds_toArray, List.set_cons_zero, List.set_cons_succ]
      refine Steady.take (.int .i64 (A2 : Int)) rfl (fun u hu => Hold.load1_run hu 0 rfl rfl rfl (rfl) (cellInt)) ?_
      simp only [Act.put, List.setIfInBounds_toArray, List.set_cons_zero, List.set_cons_succ]
      refine Steady.take ?_ rfl (by intro u hu; go_simp; with_reducible rfl) ?_
      simp only [Act.put, List.setIfInBounds_toArray, List.set_cons_zero, List.set_cons_succ]
      refine Steady.take (.int .i64 (A3 : Int)) rfl (fun u hu => Hold.load1_run hu 0 rfl rfl rfl (rfl) (cellInt)) ?_
      simp only [Act.put, List.setIfInBounds_toArray, List.set_cons_zero, List.set_cons_succ]
      refine Steady.call _ _ _ rfl ?_ (Tape.keptI RPA.out) ?_
      · intro u
        go_simp
      simp only [Act.put, List.setIfInBounds_toArray, List.set_cons_zero, List.set_cons_succ]
      refine Steady.take ?_ rfl (by intro u hu; go_simp; with_reducible rfl) ?_
      simp only [Act.put, List.setIfInBounds_toArray, List.set_cons_zero, List.set_cons_succ]
      refine Steady.take (.int .i64 (B0 : Int)) rfl (fun u hu => Hold.load1_run hu 1 rfl rfl rfl (rfl) (cellInt)) ?_
      simp only [Act.put, List.setIfInBounds_toArray, List.set_cons_zero, List.set_cons_succ]
      refine Steady.take ?_ rfl (by intro u hu; go_simp; with_reducible rfl) ?_
      simp only [Act.put, List.setIfInBounds_toArray, List.set_cons_zero, List.set_cons_succ]
      refine Steady.take (.int .i64 (B1 : Int)) rfl (fun u hu => Hold.load1_run hu 1 rfl rfl rfl (rfl) (cellInt)) ?_
      simp only [Act.put, List.setIfInBounds_toArray, List.set_cons_zero, List.set_cons_succ]
      refine Steady.take ?_ rfl (by intro u hu; go_simp; with_reducible rfl) ?_
      simp only [Act.put, List.setIfInBounds_toArray, List.set_cons_zero, List.set_cons_succ]
      refine Steady.take (.int .i64 (B2 : Int)) rfl (fun u hu => Hold.load1_run hu 1 rfl rfl rfl (rfl) (cellInt)) ?_
      simp only [Act.put, List.setIfInBounds_toArray, List.set_cons_zero, List.set_cons_succ]
      refine Steady.take ?_ rfl (by intro u hu; go_simp; with_reducible rfl) ?_
      simp only [Act.put, List.setIfInBounds_toArray, List.set_cons_zero, List.set_cons_succ]
      refine Steady.take (.int .i64 (B3 : Int)) rfl (fun u hu => Hold.load1_run hu 1 rfl rfl rfl (rfl) (cellInt)) ?_
      simp only [Act.put, List.setIfInBounds_toArray, List.set_cons_zero, List.set_cons_succ]
      refine Steady.call _ _ _ rfl ?_ (Tape.keptI RPB.out) ?_
      · intro u
        go_simp
      simp only [Act.put, List.setIfInBounds_toArray, List.set_cons_zero, List.set_cons_succ]
      refine Steady.take ?_ rfl (by intro u hu; go_simp; with_reducible rfl) ?_
      simp only [Act.put, List.setIfInBounds_toArray, List.set_cons_zero, List.set_cons_succ]
      refine Steady.nil ?_
      clear HM
      intro w HM
      replace HM := Lib.hid HM
      go_wp2
      refine Steady.region 15 (by kernel_rfl) (by kernel_rfl) (fun u => Hold.Hld _ _ u) HM.out.drew ?_
      simp only [List.take_succ_cons, List.take_zero, List.drop_succ_cons, List.drop_zero]
      refine Steady.take ?_ rfl (by intro u hu; go_simp; with_reducible rfl) ?_
      simp only [Act.put, List.setIfInBounds_toArray, List.set_cons_zero, List.set_cons_succ]
      refine Steady.take (.int .i64 (A0 : Int)) rfl (fun u hu => Hold.load1_run hu 0 rfl rfl rfl (rfl) (cellInt)) ?_
      simp only [Act.put, List.setIfInBounds_toArray, List.set_cons_zero, List.set_cons_succ]
      refine Steady.take ?_ rfl (by intro u hu; go_simp; with_reducible rfl) ?_
      simp only [Act.put, List.setIfInBounds_toArray, List.set_cons_zero, List.set_cons_succ]
      refine Steady.take (.int .i64 (A1 : Int)) rfl (fun u hu => Hold.load1_run hu 0 rfl rfl rfl (rfl) (cellInt)) ?_
      simp only [Act.put, List.setIfInBounds_toArray, List.set_cons_zero, List.set_cons_succ]
      refine Steady.take ?_ rfl (by intro u hu; go_simp; with_reducible rfl) ?_
      simp only [Act.put, List.setIfInBounds_toArray, List.set_cons_zero, List.set_cons_succ]
      refine Steady.take (.int .i64 (A2 : Int)) rfl (fun u hu => Hold.load1_run hu 0 rfl rfl rfl (rfl) (cellInt)) ?_
      simp only [Act.put, List.setIfInBounds_toArray, List.set_cons_zero, List.set_cons_succ]
      refine Steady.call _ _ _ rfl ?_ (Tape.keptI RMA.out) ?_
      · intro u
        go_simp
      simp only [Act.put, List.setIfInBounds_toArray, List.set_cons_zero, List.set_cons_succ]
      refine Steady.take ?_ rfl (by intro u hu; go_simp; with_reducible rfl) ?_
      simp only [Act.put, List.setIfInBounds_toArray, List.set_cons_zero, List.set_cons_succ]
      refine Steady.take (.int .i64 (B0 : Int)) rfl (fun u hu => Hold.load1_run hu 1 rfl rfl rfl (rfl) (cellInt)) ?_
      simp only [Act.put, List.setIfInBounds_toArray, List.set_cons_zero, List.set_cons_succ]
      refine Steady.take ?_ rfl (by intro u hu; go_simp; with_reducible rfl) ?_
      simp only [Act.put, List.setIfInBounds_toArray, List.set_cons_zero, List.set_cons_succ]
      refine Steady.take (.int .i64 (B1 : Int)) rfl (fun u hu => Hold.load1_run hu 1 rfl rfl rfl (rfl) (cellInt)) ?_
      simp only [Act.put, List.setIfInBounds_toArray, List.set_cons_zero, List.set_cons_succ]
      refine Steady.take ?_ rfl (by intro u hu; go_simp; with_reducible rfl) ?_
      simp only [Act.put, List.setIfInBounds_toArray, List.set_cons_zero, List.set_cons_succ]
      refine Steady.take (.int .i64 (B2 : Int)) rfl (fun u hu => Hold.load1_run hu 1 rfl rfl rfl (rfl) (cellInt)) ?_
      simp only [Act.put, List.setIfInBounds_toArray, List.set_cons_zero, List.set_cons_succ]
      refine Steady.call _ _ _ rfl ?_ (Tape.keptI RMB.out) ?_
      · intro u
        go_simp
      simp only [Act.put, List.setIfInBounds_toArray, List.set_cons_zero, List.set_cons_succ]
      refine Steady.take ?_ rfl (by intro u hu; go_simp; with_reducible rfl) ?_
      simp only [Act.put, List.setIfInBounds_toArray, List.set_cons_zero, List.set_cons_succ]
      refine Steady.nil ?_
      clear HM
      intro w HM
      replace HM := Lib.hid HM
      go_wp2
      refine Steady.region 17 (by kernel_rfl) (by kernel_rfl) (fun u => Hold.Hld _ _ u) HM.out.drew ?_
      simp only [List.take_succ_cons, List.take_zero, List.drop_succ_cons, List.drop_zero]
      refine Steady.take ?_ rfl (by intro u hu; go_simp; with_reducible rfl) ?_
      simp only [Act.put, List.setIfInBounds_toArray, List.set_cons_zero, List.set_cons_succ]
      refine Steady.take (.int .i64 (A0 : Int)) rfl (fun u hu => Hold.load1_run hu 0 rfl rfl rfl (rfl) (cellInt)) ?_
      simp only [Act.put, List.setIfInBounds_toArray, List.set_cons_zero, List.set_cons_succ]
      refine Steady.take ?_ rfl (by intro u hu; go_simp; with_reducible rfl) ?_
      simp only [Act.put, List.setIfInBounds_toArray, List.set_cons_zero, List.set_cons_succ]
      refine Steady.take (.int .i64 (A1 : Int)) rfl (fun u hu => Hold.load1_run hu 0 rfl rfl rfl (rfl) (cellInt)) ?_
      simp only [Act.put, List.setIfInBounds_toArray, List.set_cons_zero, List.set_cons_succ]
      refine Steady.call _ _ _ rfl ?_ (Tape.keptI RUA.out) ?_
      · intro u
        go_simp
      simp only [Act.put, List.setIfInBounds_toArray, List.set_cons_zero, List.set_cons_succ]
      refine Steady.take ?_ rfl (by intro u hu; go_simp; with_reducible rfl) ?_
      simp only [Act.put, List.setIfInBounds_toArray, List.set_cons_zero, List.set_cons_succ]
      refine Steady.take (.int .i64 (A2 : Int)) rfl (fun u hu => Hold.load1_run hu 0 rfl rfl rfl (rfl) (cellInt)) ?_
      simp only [Act.put, List.setIfInBounds_toArray, List.set_cons_zero, List.set_cons_succ]
      refine Steady.call _ _ _ rfl ?_ (Tape.keptI RSA.out) ?_
      · intro u
        go_simp
      simp only [Act.put, List.setIfInBounds_toArray, List.set_cons_zero, List.set_cons_succ]
      refine Steady.take ?_ rfl (by intro u hu; go_simp; with_reducible rfl) ?_
      simp only [Act.put, List.setIfInBounds_toArray, List.set_cons_zero, List.set_cons_succ]
      refine Steady.take (.int .i64 (B0 : Int)) rfl (fun u hu => Hold.load1_run hu 1 rfl rfl rfl (rfl) (cellInt)) ?_
      simp only [Act.put, List.setIfInBounds_toArray, List.set_cons_zero, List.set_cons_succ]
      refine Steady.take ?_ rfl (by intro u hu; go_simp; with_reducible rfl) ?_
      simp only [Act.put, List.setIfInBounds_toArray, List.set_cons_zero, List.set_cons_succ]
      refine Steady.take (.int .i64 (B1 : Int)) rfl (fun u hu => Hold.load1_run hu 1 rfl rfl rfl (rfl) (cellInt)) ?_
      simp only [Act.put, List.setIfInBounds_toArray, List.set_cons_zero, List.set_cons_succ]
      refine Steady.call _ _ _ rfl ?_ (Tape.keptI RUB.out) ?_
      · intro u
        go_simp
      simp only [Act.put, List.setIfInBounds_toArray, List.set_cons_zero, List.set_cons_succ]
      refine Steady.take ?_ rfl (by intro u hu; go_simp; with_reducible rfl) ?_
      simp only [Act.put, List.setIfInBounds_toArray, List.set_cons_zero, List.set_cons_succ]
      refine Steady.take (.int .i64 (B2 : Int)) rfl (fun u hu => Hold.load1_run hu 1 rfl rfl rfl (rfl) (cellInt)) ?_
      simp only [Act.put, List.setIfInBounds_toArray, List.set_cons_zero, List.set_cons_succ]
      refine Steady.call _ _ _ rfl ?_ (Tape.keptI RSB.out) ?_
      · intro u
        go_simp
      simp only [Act.put, List.setIfInBounds_toArray, List.set_cons_zero, List.set_cons_succ]
      refine Steady.take ?_ rfl (by intro u hu; go_simp; with_reducible rfl) ?_
      simp only [Act.put, List.setIfInBounds_toArray, List.set_cons_zero, List.set_cons_succ]
      refine Steady.nil ?_
      clear HM
      intro w HM
      replace HM := Lib.hid HM
      go_upto_region 9 with (fail)
      have fA0 : w.cell? ⟨p, 0, none⟩ = some (.int .i64 (A0 : Int)) := (HM.out.at 0 rfl).row.cell rfl
      have fA1 : w.cell? ⟨p, 1, none⟩ = some (.int .i64 (A1 : Int)) := (HM.out.at 0 rfl).row.cell rfl
      have fA2 : w.cell? ⟨p, 2, none⟩ = some (.int .i64 (A2 : Int)) := (HM.out.at 0 rfl).row.cell rfl
      have fB0 : w.cell? ⟨q, 0, none⟩ = some (.int .i64 (B0 : Int)) := (HM.out.at 1 rfl).row.cell rfl
      have fB1 : w.cell? ⟨q, 1, none⟩ = some (.int .i64 (B1 : Int)) := (HM.out.at 1 rfl).row.cell rfl
      have fB2 : w.cell? ⟨q, 2, none⟩ = some (.int .i64 (B2 : Int)) := (HM.out.at 1 rfl).row.cell rfl
      by_cases h0 : A0 = B0
      rotate_left
      · have d0 : decide ((A0 : Int) = B0) = false := by simp; omega
        have c0 : ((A0 : Int) == B0) = false := by simp; omega
        obtain rfl : xv = false := by rw [hxv.out]; simp only [d0, Bool.false_and, Bool.true_and, Bool.and_false]
        obtain rfl : sv = false := by rw [hsv.out]; simp only [d0, Bool.false_and, Bool.true_and, Bool.and_false, Bool.and_true]
        obtain rfl : dv = false := by rw [hdv.out]; simp only [d0]
        clear h0
        go_upto_region 10 with (fail)
        replace HM := Lib.hid HM.out.drew
        refine wp_region_held (S := fun u => Hold.Hld _ _ u) (by kernel_rfl) (Steady.phase 0 6 28 (by kernel_rfl) (by as_aux_lemma => kernel_rfl) HM.out ?_)
        simp only [List.take_succ_cons, List.take_zero, List.drop_succ_cons, List.drop_zero]
        refine Steady.take ?_ rfl (by intro u hu; go_simp; with_reducible rfl) ?_
        simp only [Act.put, List.setIfInBounds_toArray, List.set_cons_zero, List.set_cons_succ]
        refine Steady.take (.agg [.int .i64 (A0 : Int), .int .i64 (A1 : Int), .int .i64 (A2 : Int), .int .i64 (A3 : Int)].toArray) rfl (fun u hu => Hold.load_run hu 0 rfl rfl rfl (Hold.Part.all _) fourRow) ?_
        simp only [Act.put, List.setIfInBounds_toArray, List.set_cons_zero, List.set_cons_succ]
        refine Steady.take (.agg [.int .i64 (B0 : Int), .int .i64 (B1 : Int), .int .i64 (B2 : Int), .int .i64 (B3 : Int)].toArray) rfl (fun u hu => Hold.load_run hu 1 rfl rfl rfl (Hold.Part.all _) fourRow) ?_
        simp only [Act.put, List.setIfInBounds_toArray, List.set_cons_zero, List.set_cons_succ]
        refine Steady.take (.bool false) rfl (fun u hu => eql_four rfl rfl rfl hxv.out u) ?_
        simp only [Act.put, List.setIfInBounds_toArray, List.set_cons_zero, List.set_cons_succ]
        refine Steady.take ?_ rfl (by intro u hu; go_simp; with_reducible rfl) ?_
        simp only [Act.put, List.setIfInBounds_toArray, List.set_cons_zero, List.set_cons_succ]
        refine Steady.take ?_ rfl (by intro u hu; go_simp; with_reducible rfl) ?_
        simp only [Act.put, List.setIfInBounds_toArray, List.set_cons_zero, List.set_cons_succ]
        refine Steady.nil ?_
        clear HM
        intro w HM
        replace HM := Lib.hid HM
        refine Steady.phase 6 11 23 (by kernel_rfl) (by as_aux_lemma => kernel_rfl) HM.out ?_
        simp only [List.take_succ_cons, List.take_zero, List.drop_succ_cons, List.drop_zero]
        refine Steady.take ?_ rfl (by intro u hu; go_simp; with_reducible rfl) ?_
        simp only [Act.put, List.setIfInBounds_toArray, List.set_cons_zero, List.set_cons_succ]
        refine Steady.take ?_ rfl (by intro u hu; go_simp; with_reducible rfl) ?_
        simp only [Act.put, List.setIfInBounds_toArray, List.set_cons_zero, List.set_cons_succ]
        refine Steady.take ?_ rfl (by intro u hu; go_simp; with_reducible rfl) ?_
        simp only [Act.put, List.setIfInBounds_toArray, List.set_cons_zero, List.set_cons_succ]
        refine Steady.take ?_ rfl (by intro u hu; go_simp; with_reducible rfl) ?_
        simp only [Act.put, List.setIfInBounds_toArray, List.set_cons_zero, List.set_cons_succ]
        refine Steady.take ?_ rfl (by intro u hu; go_simp; with_reducible rfl) ?_
        simp only [Act.put, List.setIfInBounds_toArray, List.set_cons_zero, List.set_cons_succ]
        refine Steady.nil ?_
        clear HM
        intro w HM
        replace HM := Lib.hid HM
        refine Steady.phase 11 16 18 (by kernel_rfl) (by as_aux_lemma => kernel_rfl) HM.out ?_
        simp only [List.take_succ_cons, List.take_zero, List.drop_succ_cons, List.drop_zero]
        refine Steady.take ?_ rfl (by intro u hu; go_simp; with_reducible rfl) ?_
        simp only [Act.put, List.setIfInBounds_toArray, List.set_cons_zero, List.set_cons_succ]
        refine Steady.take ?_ rfl (by intro u hu; go_simp; with_reducible rfl) ?_
        simp only [Act.put, List.setIfInBounds_toArray, List.set_cons_zero, List.set_cons_succ]
        refine Steady.take ?_ rfl (by intro u hu; go_simp; with_reducible rfl) ?_
        simp only [Act.put, List.setIfInBounds_toArray, List.set_cons_zero, List.set_cons_succ]
        refine Steady.take ?_ rfl (by intro u hu; go_simp; with_reducible rfl) ?_
        simp only [Act.put, List.setIfInBounds_toArray, List.set_cons_zero, List.set_cons_succ]
        refine Steady.take ?_ rfl (by intro u hu; go_simp; with_reducible rfl) ?_
        simp only [Act.put, List.setIfInBounds_toArray, List.set_cons_zero, List.set_cons_succ]
        refine Steady.nil ?_
        clear HM
        intro w HM
        replace HM := Lib.hid HM
        refine Steady.phase 16 31 3 (by kernel_rfl) (by as_aux_lemma => kernel_rfl) HM.out ?_
        simp only [List.take_succ_cons, List.take_zero, List.drop_succ_cons, List.drop_zero]
        refine Steady.take ?_ rfl (by intro u hu; go_simp; with_reducible rfl) ?_
        simp only [Act.put, List.setIfInBounds_toArray, List.set_cons_zero, List.set_cons_succ]
        refine Steady.take (.int .i64 (A0 : Int)) rfl (fun u hu => Hold.load1_run hu 0 rfl rfl rfl (rfl) (cellInt)) ?_
        simp only [Act.put, List.setIfInBounds_toArray, List.set_cons_zero, List.set_cons_succ]
        refine Steady.call _ _ _ rfl ?_ (Tape.keptI RDA.out) ?_
        · intro u
          go_simp
        simp only [Act.put, List.setIfInBounds_toArray, List.set_cons_zero, List.set_cons_succ]
        refine Steady.take ?_ rfl (by intro u hu; go_simp; with_reducible rfl) ?_
        simp only [Act.put, List.setIfInBounds_toArray, List.set_cons_zero, List.set_cons_succ]
        refine Steady.take (.int .i64 (B0 : Int)) rfl (fun u hu => Hold.load1_run hu 1 rfl rfl rfl (rfl) (cellInt)) ?_
        simp only [Act.put, List.setIfInBounds_toArray, List.set_cons_zero, List.set_cons_succ]
        refine Steady.call _ _ _ rfl ?_ (Tape.keptI RDB.out) ?_
        · intro u
          go_simp
        simp only [Act.put, List.setIfInBounds_toArray, List.set_cons_zero, List.set_cons_succ]
        refine Steady.take ?_ rfl (by intro u hu; go_simp; with_reducible rfl) ?_
        simp only [Act.put, List.setIfInBounds_toArray, List.set_cons_zero, List.set_cons_succ]
        refine Steady.take ?_ rfl (by intro u hu; go_simp; with_reducible rfl) ?_
        simp only [Act.put, List.setIfInBounds_toArray, List.set_cons_zero, List.set_cons_succ]
        refine Steady.take (.int .i64 (A0 : Int)) rfl (fun u hu => Hold.load1_run hu 0 rfl rfl rfl (rfl) (cellInt)) ?_
        simp only [Act.put, List.setIfInBounds_toArray, List.set_cons_zero, List.set_cons_succ]
        refine Steady.take ?_ rfl (by intro u hu; go_simp; with_reducible rfl) ?_
        simp only [Act.put, List.setIfInBounds_toArray, List.set_cons_zero, List.set_cons_succ]
        refine Steady.take (.int .i64 (B0 : Int)) rfl (fun u hu => Hold.load1_run hu 1 rfl rfl rfl (rfl) (cellInt)) ?_
        simp only [Act.put, List.setIfInBounds_toArray, List.set_cons_zero, List.set_cons_succ]
        refine Steady.take ?_ rfl (by intro u hu; go_simp; with_reducible rfl) ?_
        simp only [Act.put, List.setIfInBounds_toArray, List.set_cons_zero, List.set_cons_succ]
        refine Steady.take ?_ rfl (by intro u hu; go_simp; with_reducible rfl) ?_
        simp only [Act.put, List.setIfInBounds_toArray, List.set_cons_zero, List.set_cons_succ]
        refine Steady.take ?_ rfl (by intro u hu; go_simp; with_reducible rfl) ?_
        simp only [Act.put, List.setIfInBounds_toArray, List.set_cons_zero, List.set_cons_succ]
        refine Steady.take ?_ rfl (by intro u hu; go_simp; with_reducible rfl) ?_
        simp only [Act.put, List.setIfInBounds_toArray, List.set_cons_zero, List.set_cons_succ]
        refine Steady.nil ?_
        clear HM
        intro w HM
        replace HM := Lib.hid HM
        refine Steady.phase 31 33 1 (by kernel_rfl) (by as_aux_lemma => kernel_rfl) HM.out ?_
        simp only [List.take_succ_cons, List.take_zero, List.drop_succ_cons, List.drop_zero]
        refine Steady.call _ _ _ rfl ?_ (Tape.keptI RA.out) ?_
        · intro u
          go_simp
        simp only [Act.put, List.setIfInBounds_toArray, List.set_cons_zero, List.set_cons_succ]
        refine Steady.take ?_ rfl (by intro u hu; go_simp; with_reducible rfl) ?_
        simp only [Act.put, List.setIfInBounds_toArray, List.set_cons_zero, List.set_cons_succ]
        refine Steady.nil ?_
        clear HM
        intro w HM
        replace HM := Lib.hid HM
        refine wpAnyH_take (i := 33) (by simp only [List.getElem?_toArray, List.getElem?_cons_succ, List.getElem?_cons_zero]; rfl) (by kernel_rfl) (by as_aux_lemma => kernel_rfl) (by as_aux_lemma => kernel_rfl) (fun _ _ _ h => by exact h) (.inl ⟨rfl, fun u hu => by go_simp; with_reducible rfl⟩) HM.out ?_
        simp only [List.getElem_toArray, List.getElem_cons_succ, List.getElem_cons_zero, Act.put, List.setIfInBounds_toArray, List.set_cons_zero, List.set_cons_succ]
        refine wpAnyH_done (by kernel_rfl) ?_ 0
        go_wp2
        go_ret
        exact ⟨by simp, HM.out.below⟩
      by_cases h1 : A1 = B1
      rotate_left
      · have d0 : decide ((A0 : Int) = B0) = true := by simp [h0]
        have c0 : ((A0 : Int) == B0) = true := by simp [h0]
        have d1 : decide ((A1 : Int) = B1) = false := by simp; omega
        have c1 : ((A1 : Int) == B1) = false := by simp; omega
        obtain rfl : xv = false := by rw [hxv.out]; simp only [d0, d1, Bool.false_and, Bool.true_and, Bool.and_false]
        obtain rfl : sv = false := by rw [hsv.out]; simp only [d0, d1, Bool.false_and, Bool.true_and, Bool.and_false, Bool.and_true]
        obtain rfl : dv = true := by rw [hdv.out]; simp only [d0]
        clear h0 h1
        go_upto_region 10 with (fail)
        replace HM := Lib.hid HM.out.drew
        refine wp_region_held (S := fun u => Hold.Hld _ _ u) (by kernel_rfl) (Steady.phase 0 6 28 (by kernel_rfl) (by as_aux_lemma => kernel_rfl) HM.out ?_)
        simp only [List.take_succ_cons, List.take_zero, List.drop_succ_cons, List.drop_zero]
        refine Steady.take ?_ rfl (by intro u hu; go_simp; with_reducible rfl) ?_
        simp only [Act.put, List.setIfInBounds_toArray, List.set_cons_zero, List.set_cons_succ]
        refine Steady.take (.agg [.int .i64 (A0 : Int), .int .i64 (A1 : Int), .int .i64 (A2 : Int), .int .i64 (A3 : Int)].toArray) rfl (fun u hu => Hold.load_run hu 0 rfl rfl rfl (Hold.Part.all _) fourRow) ?_
        simp only [Act.put, List.setIfInBounds_toArray, List.set_cons_zero, List.set_cons_succ]
        refine Steady.take (.agg [.int .i64 (B0 : Int), .int .i64 (B1 : Int), .int .i64 (B2 : Int), .int .i64 (B3 : Int)].toArray) rfl (fun u hu => Hold.load_run hu 1 rfl rfl rfl (Hold.Part.all _) fourRow) ?_
        simp only [Act.put, List.setIfInBounds_toArray, List.set_cons_zero, List.set_cons_succ]
        refine Steady.take (.bool false) rfl (fun u hu => eql_four rfl rfl rfl hxv.out u) ?_
        simp only [Act.put, List.setIfInBounds_toArray, List.set_cons_zero, List.set_cons_succ]
        refine Steady.take ?_ rfl (by intro u hu; go_simp; with_reducible rfl) ?_
        simp only [Act.put, List.setIfInBounds_toArray, List.set_cons_zero, List.set_cons_succ]
        refine Steady.take ?_ rfl (by intro u hu; go_simp; with_reducible rfl) ?_
        simp only [Act.put, List.setIfInBounds_toArray, List.set_cons_zero, List.set_cons_succ]
        refine Steady.nil ?_
        clear HM
        intro w HM
        replace HM := Lib.hid HM
        refine Steady.phase 6 11 23 (by kernel_rfl) (by as_aux_lemma => kernel_rfl) HM.out ?_
        simp only [List.take_succ_cons, List.take_zero, List.drop_succ_cons, List.drop_zero]
        refine Steady.take ?_ rfl (by intro u hu; go_simp; with_reducible rfl) ?_
        simp only [Act.put, List.setIfInBounds_toArray, List.set_cons_zero, List.set_cons_succ]
        refine Steady.take ?_ rfl (by intro u hu; go_simp; with_reducible rfl) ?_
        simp only [Act.put, List.setIfInBounds_toArray, List.set_cons_zero, List.set_cons_succ]
        refine Steady.take ?_ rfl (by intro u hu; go_simp; with_reducible rfl) ?_
        simp only [Act.put, List.setIfInBounds_toArray, List.set_cons_zero, List.set_cons_succ]
        refine Steady.take ?_ rfl (by intro u hu; go_simp; with_reducible rfl) ?_
        simp only [Act.put, List.setIfInBounds_toArray, List.set_cons_zero, List.set_cons_succ]
        refine Steady.take ?_ rfl (by intro u hu; go_simp; with_reducible rfl) ?_
        simp only [Act.put, List.setIfInBounds_toArray, List.set_cons_zero, List.set_cons_succ]
        refine Steady.nil ?_
        clear HM
        intro w HM
        replace HM := Lib.hid HM
        refine Steady.phase 11 16 18 (by kernel_rfl) (by as_aux_lemma => kernel_rfl) HM.out ?_
        simp only [List.take_succ_cons, List.take_zero, List.drop_succ_cons, List.drop_zero]
        refine Steady.take ?_ rfl (by intro u hu; go_simp; with_reducible rfl) ?_
        simp only [Act.put, List.setIfInBounds_toArray, List.set_cons_zero, List.set_cons_succ]
        refine Steady.take ?_ rfl (by intro u hu; go_simp; with_reducible rfl) ?_
        simp only [Act.put, List.setIfInBounds_toArray, List.set_cons_zero, List.set_cons_succ]
        refine Steady.take ?_ rfl (by intro u hu; go_simp; with_reducible rfl) ?_
        simp only [Act.put, List.setIfInBounds_toArray, List.set_cons_zero, List.set_cons_succ]
        refine Steady.take ?_ rfl (by intro u hu; go_simp; with_reducible rfl) ?_
        simp only [Act.put, List.setIfInBounds_toArray, List.set_cons_zero, List.set_cons_succ]
        refine Steady.take ?_ rfl (by intro u hu; go_simp; with_reducible rfl) ?_
        simp only [Act.put, List.setIfInBounds_toArray, List.set_cons_zero, List.set_cons_succ]
        refine Steady.nil ?_
        clear HM
        intro w HM
        replace HM := Lib.hid HM
        refine Steady.phase 16 31 3 (by kernel_rfl) (by as_aux_lemma => kernel_rfl) HM.out ?_
        simp only [List.take_succ_cons, List.take_zero, List.drop_succ_cons, List.drop_zero]
        refine Steady.take ?_ rfl (by intro u hu; go_simp; with_reducible rfl) ?_
        simp only [Act.put, List.setIfInBounds_toArray, List.set_cons_zero, List.set_cons_succ]
        refine Steady.take (.int .i64 (A0 : Int)) rfl (fun u hu => Hold.load1_run hu 0 rfl rfl rfl (rfl) (cellInt)) ?_
        simp only [Act.put, List.setIfInBounds_toArray, List.set_cons_zero, List.set_cons_succ]
        refine Steady.call _ _ _ rfl ?_ (Tape.keptI RDA.out) ?_
        · intro u
          go_simp
        simp only [Act.put, List.setIfInBounds_toArray, List.set_cons_zero, List.set_cons_succ]
        refine Steady.take ?_ rfl (by intro u hu; go_simp; with_reducible rfl) ?_
        simp only [Act.put, List.setIfInBounds_toArray, List.set_cons_zero, List.set_cons_succ]
        refine Steady.take (.int .i64 (B0 : Int)) rfl (fun u hu => Hold.load1_run hu 1 rfl rfl rfl (rfl) (cellInt)) ?_
        simp only [Act.put, List.setIfInBounds_toArray, List.set_cons_zero, List.set_cons_succ]
        refine Steady.call _ _ _ rfl ?_ (Tape.keptI RDB.out) ?_
        · intro u
          go_simp
        simp only [Act.put, List.setIfInBounds_toArray, List.set_cons_zero, List.set_cons_succ]
        refine Steady.take ?_ rfl (by intro u hu; go_simp; with_reducible rfl) ?_
        simp only [Act.put, List.setIfInBounds_toArray, List.set_cons_zero, List.set_cons_succ]
        refine Steady.take ?_ rfl (by intro u hu; go_simp; with_reducible rfl) ?_
        simp only [Act.put, List.setIfInBounds_toArray, List.set_cons_zero, List.set_cons_succ]
        refine Steady.take (.int .i64 (A0 : Int)) rfl (fun u hu => Hold.load1_run hu 0 rfl rfl rfl (rfl) (cellInt)) ?_
        simp only [Act.put, List.setIfInBounds_toArray, List.set_cons_zero, List.set_cons_succ]
        refine Steady.take ?_ rfl (by intro u hu; go_simp; with_reducible rfl) ?_
        simp only [Act.put, List.setIfInBounds_toArray, List.set_cons_zero, List.set_cons_succ]
        refine Steady.take (.int .i64 (B0 : Int)) rfl (fun u hu => Hold.load1_run hu 1 rfl rfl rfl (rfl) (cellInt)) ?_
        simp only [Act.put, List.setIfInBounds_toArray, List.set_cons_zero, List.set_cons_succ]
        refine Steady.take ?_ rfl (by intro u hu; go_simp; with_reducible rfl) ?_
        simp only [Act.put, List.setIfInBounds_toArray, List.set_cons_zero, List.set_cons_succ]
        refine Steady.take ?_ rfl (by intro u hu; go_simp; with_reducible rfl) ?_
        simp only [Act.put, List.setIfInBounds_toArray, List.set_cons_zero, List.set_cons_succ]
        refine Steady.take ?_ rfl (by intro u hu; go_simp; with_reducible rfl) ?_
        simp only [Act.put, List.setIfInBounds_toArray, List.set_cons_zero, List.set_cons_succ]
        refine Steady.take ?_ rfl (by intro u hu; go_simp; with_reducible rfl) ?_
        simp only [Act.put, List.setIfInBounds_toArray, List.set_cons_zero, List.set_cons_succ]
        refine Steady.nil ?_
        clear HM
        intro w HM
        replace HM := Lib.hid HM
        refine Steady.phase 31 33 1 (by kernel_rfl) (by as_aux_lemma => kernel_rfl) HM.out ?_
        simp only [List.take_succ_cons, List.take_zero, List.drop_succ_cons, List.drop_zero]
        refine Steady.call _ _ _ rfl ?_ (Tape.keptI RA.out) ?_
        · intro u
          go_simp
        simp only [Act.put, List.setIfInBounds_toArray, List.set_cons_zero, List.set_cons_succ]
        refine Steady.take ?_ rfl (by intro u hu; go_simp; with_reducible rfl) ?_
        simp only [Act.put, List.setIfInBounds_toArray, List.set_cons_zero, List.set_cons_succ]
        refine Steady.nil ?_
        clear HM
        intro w HM
        replace HM := Lib.hid HM
        refine wpAnyH_take (i := 33) (by simp only [List.getElem?_toArray, List.getElem?_cons_succ, List.getElem?_cons_zero]; rfl) (by kernel_rfl) (by as_aux_lemma => kernel_rfl) (by as_aux_lemma => kernel_rfl) (fun _ _ _ h => by exact h) (.inl ⟨rfl, fun u hu => by go_simp; with_reducible rfl⟩) HM.out ?_
        simp only [List.getElem_toArray, List.getElem_cons_succ, List.getElem_cons_zero, Act.put, List.setIfInBounds_toArray, List.set_cons_zero, List.set_cons_succ]
        refine wpAnyH_done (by kernel_rfl) ?_ 0
        go_wp2
        go_ret
        exact ⟨by simp, HM.out.below⟩
      by_cases h2 : A2 = B2
      rotate_left
      · have d0 : decide ((A0 : Int) = B0) = true := by simp [h0]
        have c0 : ((A0 : Int) == B0) = true := by simp [h0]
        have d1 : decide ((A1 : Int) = B1) = true := by simp [h1]
        have c1 : ((A1 : Int) == B1) = true := by simp [h1]
        have d2 : decide ((A2 : Int) = B2) = false := by simp; omega
        have c2 : ((A2 : Int) == B2) = false := by simp; omega
        obtain rfl : xv = false := by rw [hxv.out]; simp only [d0, d1, d2, Bool.false_and, Bool.true_and, Bool.and_false]
        obtain rfl : sv = false := by rw [hsv.out]; simp only [d0, d1, d2, Bool.false_and, Bool.true_and, Bool.and_false, Bool.and_true]
        obtain rfl : dv = true := by rw [hdv.out]; simp only [d0]
        clear h0 h1 h2
        go_upto_region 10 with (fail)
        replace HM := Lib.hid HM.out.drew
        refine wp_region_held (S := fun u => Hold.Hld _ _ u) (by kernel_rfl) (Steady.phase 0 6 28 (by kernel_rfl) (by as_aux_lemma => kernel_rfl) HM.out ?_)
        simp only [List.take_succ_cons, List.take_zero, List.drop_succ_cons, List.drop_zero]
        refine Steady.take ?_ rfl (by intro u hu; go_simp; with_reducible rfl) ?_
        simp only [Act.put, List.setIfInBounds_toArray, List.set_cons_zero, List.set_cons_succ]
        refine Steady.take (.agg [.int .i64 (A0 : Int), .int .i64 (A1 : Int), .int .i64 (A2 : Int), .int .i64 (A3 : Int)].toArray) rfl (fun u hu => Hold.load_run hu 0 rfl rfl rfl (Hold.Part.all _) fourRow) ?_
        simp only [Act.put, List.setIfInBounds_toArray, List.set_cons_zero, List.set_cons_succ]
        refine Steady.take (.agg [.int .i64 (B0 : Int), .int .i64 (B1 : Int), .int .i64 (B2 : Int), .int .i64 (B3 : Int)].toArray) rfl (fun u hu => Hold.load_run hu 1 rfl rfl rfl (Hold.Part.all _) fourRow) ?_
        simp only [Act.put, List.setIfInBounds_toArray, List.set_cons_zero, List.set_cons_succ]
        refine Steady.take (.bool false) rfl (fun u hu => eql_four rfl rfl rfl hxv.out u) ?_
        simp only [Act.put, List.setIfInBounds_toArray, List.set_cons_zero, List.set_cons_succ]
        refine Steady.take ?_ rfl (by intro u hu; go_simp; with_reducible rfl) ?_
        simp only [Act.put, List.setIfInBounds_toArray, List.set_cons_zero, List.set_cons_succ]
        refine Steady.take ?_ rfl (by intro u hu; go_simp; with_reducible rfl) ?_
        simp only [Act.put, List.setIfInBounds_toArray, List.set_cons_zero, List.set_cons_succ]
        refine Steady.nil ?_
        clear HM
        intro w HM
        replace HM := Lib.hid HM
        refine Steady.phase 6 11 23 (by kernel_rfl) (by as_aux_lemma => kernel_rfl) HM.out ?_
        simp only [List.take_succ_cons, List.take_zero, List.drop_succ_cons, List.drop_zero]
        refine Steady.take ?_ rfl (by intro u hu; go_simp; with_reducible rfl) ?_
        simp only [Act.put, List.setIfInBounds_toArray, List.set_cons_zero, List.set_cons_succ]
        refine Steady.take ?_ rfl (by intro u hu; go_simp; with_reducible rfl) ?_
        simp only [Act.put, List.setIfInBounds_toArray, List.set_cons_zero, List.set_cons_succ]
        refine Steady.take ?_ rfl (by intro u hu; go_simp; with_reducible rfl) ?_
        simp only [Act.put, List.setIfInBounds_toArray, List.set_cons_zero, List.set_cons_succ]
        refine Steady.take ?_ rfl (by intro u hu; go_simp; with_reducible rfl) ?_
        simp only [Act.put, List.setIfInBounds_toArray, List.set_cons_zero, List.set_cons_succ]
        refine Steady.take ?_ rfl (by intro u hu; go_simp; with_reducible rfl) ?_
        simp only [Act.put, List.setIfInBounds_toArray, List.set_cons_zero, List.set_cons_succ]
        refine Steady.nil ?_
        clear HM
        intro w HM
        replace HM := Lib.hid HM
        refine Steady.phase 11 16 18 (by kernel_rfl) (by as_aux_lemma => kernel_rfl) HM.out ?_
        simp only [List.take_succ_cons, List.take_zero, List.drop_succ_cons, List.drop_zero]
        refine Steady.take ?_ rfl (by intro u hu; go_simp; with_reducible rfl) ?_
        simp only [Act.put, List.setIfInBounds_toArray, List.set_cons_zero, List.set_cons_succ]
        refine Steady.take ?_ rfl (by intro u hu; go_simp; with_reducible rfl) ?_
        simp only [Act.put, List.setIfInBounds_toArray, List.set_cons_zero, List.set_cons_succ]
        refine Steady.take ?_ rfl (by intro u hu; go_simp; with_reducible rfl) ?_
        simp only [Act.put, List.setIfInBounds_toArray, List.set_cons_zero, List.set_cons_succ]
        refine Steady.take ?_ rfl (by intro u hu; go_simp; with_reducible rfl) ?_
        simp only [Act.put, List.setIfInBounds_toArray, List.set_cons_zero, List.set_cons_succ]
        refine Steady.take ?_ rfl (by intro u hu; go_simp; with_reducible rfl) ?_
        simp only [Act.put, List.setIfInBounds_toArray, List.set_cons_zero, List.set_cons_succ]
        refine Steady.nil ?_
        clear HM
        intro w HM
        replace HM := Lib.hid HM
        refine Steady.phase 16 31 3 (by kernel_rfl) (by as_aux_lemma => kernel_rfl) HM.out ?_
        simp only [List.take_succ_cons, List.take_zero, List.drop_succ_cons, List.drop_zero]
        refine Steady.take ?_ rfl (by intro u hu; go_simp; with_reducible rfl) ?_
        simp only [Act.put, List.setIfInBounds_toArray, List.set_cons_zero, List.set_cons_succ]
        refine Steady.take (.int .i64 (A0 : Int)) rfl (fun u hu => Hold.load1_run hu 0 rfl rfl rfl (rfl) (cellInt)) ?_
        simp only [Act.put, List.setIfInBounds_toArray, List.set_cons_zero, List.set_cons_succ]
        refine Steady.call _ _ _ rfl ?_ (Tape.keptI RDA.out) ?_
        · intro u
          go_simp
        simp only [Act.put, List.setIfInBounds_toArray, List.set_cons_zero, List.set_cons_succ]
        refine Steady.take ?_ rfl (by intro u hu; go_simp; with_reducible rfl) ?_
        simp only [Act.put, List.setIfInBounds_toArray, List.set_cons_zero, List.set_cons_succ]
        refine Steady.take (.int .i64 (B0 : Int)) rfl (fun u hu => Hold.load1_run hu 1 rfl rfl rfl (rfl) (cellInt)) ?_
        simp only [Act.put, List.setIfInBounds_toArray, List.set_cons_zero, List.set_cons_succ]
        refine Steady.call _ _ _ rfl ?_ (Tape.keptI RDB.out) ?_
        · intro u
          go_simp
        simp only [Act.put, List.setIfInBounds_toArray, List.set_cons_zero, List.set_cons_succ]
        refine Steady.take ?_ rfl (by intro u hu; go_simp; with_reducible rfl) ?_
        simp only [Act.put, List.setIfInBounds_toArray, List.set_cons_zero, List.set_cons_succ]
        refine Steady.take ?_ rfl (by intro u hu; go_simp; with_reducible rfl) ?_
        simp only [Act.put, List.setIfInBounds_toArray, List.set_cons_zero, List.set_cons_succ]
        refine Steady.take (.int .i64 (A0 : Int)) rfl (fun u hu => Hold.load1_run hu 0 rfl rfl rfl (rfl) (cellInt)) ?_
        simp only [Act.put, List.setIfInBounds_toArray, List.set_cons_zero, List.set_cons_succ]
        refine Steady.take ?_ rfl (by intro u hu; go_simp; with_reducible rfl) ?_
        simp only [Act.put, List.setIfInBounds_toArray, List.set_cons_zero, List.set_cons_succ]
        refine Steady.take (.int .i64 (B0 : Int)) rfl (fun u hu => Hold.load1_run hu 1 rfl rfl rfl (rfl) (cellInt)) ?_
        simp only [Act.put, List.setIfInBounds_toArray, List.set_cons_zero, List.set_cons_succ]
        refine Steady.take ?_ rfl (by intro u hu; go_simp; with_reducible rfl) ?_
        simp only [Act.put, List.setIfInBounds_toArray, List.set_cons_zero, List.set_cons_succ]
        refine Steady.take ?_ rfl (by intro u hu; go_simp; with_reducible rfl) ?_
        simp only [Act.put, List.setIfInBounds_toArray, List.set_cons_zero, List.set_cons_succ]
        refine Steady.take ?_ rfl (by intro u hu; go_simp; with_reducible rfl) ?_
        simp only [Act.put, List.setIfInBounds_toArray, List.set_cons_zero, List.set_cons_succ]
        refine Steady.take ?_ rfl (by intro u hu; go_simp; with_reducible rfl) ?_
        simp only [Act.put, List.setIfInBounds_toArray, List.set_cons_zero, List.set_cons_succ]
        refine Steady.nil ?_
        clear HM
        intro w HM
        replace HM := Lib.hid HM
        refine Steady.phase 31 33 1 (by kernel_rfl) (by as_aux_lemma => kernel_rfl) HM.out ?_
        simp only [List.take_succ_cons, List.take_zero, List.drop_succ_cons, List.drop_zero]
        refine Steady.call _ _ _ rfl ?_ (Tape.keptI RA.out) ?_
        · intro u
          go_simp
        simp only [Act.put, List.setIfInBounds_toArray, List.set_cons_zero, List.set_cons_succ]
        refine Steady.take ?_ rfl (by intro u hu; go_simp; with_reducible rfl) ?_
        simp only [Act.put, List.setIfInBounds_toArray, List.set_cons_zero, List.set_cons_succ]
        refine Steady.nil ?_
        clear HM
        intro w HM
        replace HM := Lib.hid HM
        refine wpAnyH_take (i := 33) (by simp only [List.getElem?_toArray, List.getElem?_cons_succ, List.getElem?_cons_zero]; rfl) (by kernel_rfl) (by as_aux_lemma => kernel_rfl) (by as_aux_lemma => kernel_rfl) (fun _ _ _ h => by exact h) (.inl ⟨rfl, fun u hu => by go_simp; with_reducible rfl⟩) HM.out ?_
        simp only [List.getElem_toArray, List.getElem_cons_succ, List.getElem_cons_zero, Act.put, List.setIfInBounds_toArray, List.set_cons_zero, List.set_cons_succ]
        refine wpAnyH_done (by kernel_rfl) ?_ 0
        go_wp2
        go_ret
        exact ⟨by simp, HM.out.below⟩
      by_cases h3 : A3 = B3
      rotate_left
      · have d0 : decide ((A0 : Int) = B0) = true := by simp [h0]
        have c0 : ((A0 : Int) == B0) = true := by simp [h0]
        have d1 : decide ((A1 : Int) = B1) = true := by simp [h1]
        have c1 : ((A1 : Int) == B1) = true := by simp [h1]
        have d2 : decide ((A2 : Int) = B2) = true := by simp [h2]
        have c2 : ((A2 : Int) == B2) = true := by simp [h2]
        have d3 : decide ((A3 : Int) = B3) = false := by simp; omega
        have c3 : ((A3 : Int) == B3) = false := by simp; omega
        obtain rfl : xv = false := by rw [hxv.out]; simp only [d0, d1, d2, d3, Bool.false_and, Bool.true_and, Bool.and_false]
        obtain rfl : sv = true := by rw [hsv.out]; simp only [d0, d1, d2, d3, Bool.false_and, Bool.true_and, Bool.and_false, Bool.and_true]
        obtain rfl : dv = true := by rw [hdv.out]; simp only [d0]
        clear h0 h1 h2 h3
        go_upto_region 10 with (fail)
        replace HM := Lib.hid HM.out.drew
        refine wp_region_held (S := fun u => Hold.Hld _ _ u) (by kernel_rfl) (Steady.phase 0 6 28 (by kernel_rfl) (by as_aux_lemma => kernel_rfl) HM.out ?_)
        simp only [List.take_succ_cons, List.take_zero, List.drop_succ_cons, List.drop_zero]
        refine Steady.take ?_ rfl (by intro u hu; go_simp; with_reducible rfl) ?_
        simp only [Act.put, List.setIfInBounds_toArray, List.set_cons_zero, List.set_cons_succ]
        refine Steady.take (.agg [.int .i64 (A0 : Int), .int .i64 (A1 : Int), .int .i64 (A2 : Int), .int .i64 (A3 : Int)].toArray) rfl (fun u hu => Hold.load_run hu 0 rfl rfl rfl (Hold.Part.all _) fourRow) ?_
        simp only [Act.put, List.setIfInBounds_toArray, List.set_cons_zero, List.set_cons_succ]
        refine Steady.take (.agg [.int .i64 (B0 : Int), .int .i64 (B1 : Int), .int .i64 (B2 : Int), .int .i64 (B3 : Int)].toArray) rfl (fun u hu => Hold.load_run hu 1 rfl rfl rfl (Hold.Part.all _) fourRow) ?_
        simp only [Act.put, List.setIfInBounds_toArray, List.set_cons_zero, List.set_cons_succ]
        refine Steady.take (.bool false) rfl (fun u hu => eql_four rfl rfl rfl hxv.out u) ?_
        simp only [Act.put, List.setIfInBounds_toArray, List.set_cons_zero, List.set_cons_succ]
        refine Steady.take ?_ rfl (by intro u hu; go_simp; with_reducible rfl) ?_
        simp only [Act.put, List.setIfInBounds_toArray, List.set_cons_zero, List.set_cons_succ]
        refine Steady.take ?_ rfl (by intro u hu; go_simp; with_reducible rfl) ?_
        simp only [Act.put, List.setIfInBounds_toArray, List.set_cons_zero, List.set_cons_succ]
        refine Steady.nil ?_
        clear HM
        intro w HM
        replace HM := Lib.hid HM
        refine Steady.phase 6 11 23 (by kernel_rfl) (by as_aux_lemma => kernel_rfl) HM.out ?_
        simp only [List.take_succ_cons, List.take_zero, List.drop_succ_cons, List.drop_zero]
        refine Steady.take ?_ rfl (by intro u hu; go_simp; with_reducible rfl) ?_
        simp only [Act.put, List.setIfInBounds_toArray, List.set_cons_zero, List.set_cons_succ]
        refine Steady.take ?_ rfl (by intro u hu; go_simp; with_reducible rfl) ?_
        simp only [Act.put, List.setIfInBounds_toArray, List.set_cons_zero, List.set_cons_succ]
        refine Steady.take ?_ rfl (by intro u hu; go_simp; with_reducible rfl) ?_
        simp only [Act.put, List.setIfInBounds_toArray, List.set_cons_zero, List.set_cons_succ]
        refine Steady.take ?_ rfl (by intro u hu; go_simp; with_reducible rfl) ?_
        simp only [Act.put, List.setIfInBounds_toArray, List.set_cons_zero, List.set_cons_succ]
        refine Steady.take ?_ rfl (by intro u hu; go_simp; with_reducible rfl) ?_
        simp only [Act.put, List.setIfInBounds_toArray, List.set_cons_zero, List.set_cons_succ]
        refine Steady.nil ?_
        clear HM
        intro w HM
        replace HM := Lib.hid HM
        refine Steady.phase 11 16 18 (by kernel_rfl) (by as_aux_lemma => kernel_rfl) HM.out ?_
        simp only [List.take_succ_cons, List.take_zero, List.drop_succ_cons, List.drop_zero]
        refine Steady.take ?_ rfl (by intro u hu; go_simp; with_reducible rfl) ?_
        simp only [Act.put, List.setIfInBounds_toArray, List.set_cons_zero, List.set_cons_succ]
        refine Steady.take ?_ rfl (by intro u hu; go_simp; with_reducible rfl) ?_
        simp only [Act.put, List.setIfInBounds_toArray, List.set_cons_zero, List.set_cons_succ]
        refine Steady.take ?_ rfl (by intro u hu; go_simp; with_reducible rfl) ?_
        simp only [Act.put, List.setIfInBounds_toArray, List.set_cons_zero, List.set_cons_succ]
        refine Steady.take ?_ rfl (by intro u hu; go_simp; with_reducible rfl) ?_
        simp only [Act.put, List.setIfInBounds_toArray, List.set_cons_zero, List.set_cons_succ]
        refine Steady.take ?_ rfl (by intro u hu; go_simp; with_reducible rfl) ?_
        simp only [Act.put, List.setIfInBounds_toArray, List.set_cons_zero, List.set_cons_succ]
        refine Steady.nil ?_
        clear HM
        intro w HM
        replace HM := Lib.hid HM
        refine Steady.phase 16 31 3 (by kernel_rfl) (by as_aux_lemma => kernel_rfl) HM.out ?_
        simp only [List.take_succ_cons, List.take_zero, List.drop_succ_cons, List.drop_zero]
        refine Steady.take ?_ rfl (by intro u hu; go_simp; with_reducible rfl) ?_
        simp only [Act.put, List.setIfInBounds_toArray, List.set_cons_zero, List.set_cons_succ]
        refine Steady.take (.int .i64 (A0 : Int)) rfl (fun u hu => Hold.load1_run hu 0 rfl rfl rfl (rfl) (cellInt)) ?_
        simp only [Act.put, List.setIfInBounds_toArray, List.set_cons_zero, List.set_cons_succ]
        refine Steady.call _ _ _ rfl ?_ (Tape.keptI RDA.out) ?_
        · intro u
          go_simp
        simp only [Act.put, List.setIfInBounds_toArray, List.set_cons_zero, List.set_cons_succ]
        refine Steady.take ?_ rfl (by intro u hu; go_simp; with_reducible rfl) ?_
        simp only [Act.put, List.setIfInBounds_toArray, List.set_cons_zero, List.set_cons_succ]
        refine Steady.take (.int .i64 (B0 : Int)) rfl (fun u hu => Hold.load1_run hu 1 rfl rfl rfl (rfl) (cellInt)) ?_
        simp only [Act.put, List.setIfInBounds_toArray, List.set_cons_zero, List.set_cons_succ]
        refine Steady.call _ _ _ rfl ?_ (Tape.keptI RDB.out) ?_
        · intro u
          go_simp
        simp only [Act.put, List.setIfInBounds_toArray, List.set_cons_zero, List.set_cons_succ]
        refine Steady.take ?_ rfl (by intro u hu; go_simp; with_reducible rfl) ?_
        simp only [Act.put, List.setIfInBounds_toArray, List.set_cons_zero, List.set_cons_succ]
        refine Steady.take ?_ rfl (by intro u hu; go_simp; with_reducible rfl) ?_
        simp only [Act.put, List.setIfInBounds_toArray, List.set_cons_zero, List.set_cons_succ]
        refine Steady.take (.int .i64 (A0 : Int)) rfl (fun u hu => Hold.load1_run hu 0 rfl rfl rfl (rfl) (cellInt)) ?_
        simp only [Act.put, List.setIfInBounds_toArray, List.set_cons_zero, List.set_cons_succ]
        refine Steady.take ?_ rfl (by intro u hu; go_simp; with_reducible rfl) ?_
        simp only [Act.put, List.setIfInBounds_toArray, List.set_cons_zero, List.set_cons_succ]
        refine Steady.take (.int .i64 (B0 : Int)) rfl (fun u hu => Hold.load1_run hu 1 rfl rfl rfl (rfl) (cellInt)) ?_
        simp only [Act.put, List.setIfInBounds_toArray, List.set_cons_zero, List.set_cons_succ]
        refine Steady.take ?_ rfl (by intro u hu; go_simp; with_reducible rfl) ?_
        simp only [Act.put, List.setIfInBounds_toArray, List.set_cons_zero, List.set_cons_succ]
        refine Steady.take ?_ rfl (by intro u hu; go_simp; with_reducible rfl) ?_
        simp only [Act.put, List.setIfInBounds_toArray, List.set_cons_zero, List.set_cons_succ]
        refine Steady.take ?_ rfl (by intro u hu; go_simp; with_reducible rfl) ?_
        simp only [Act.put, List.setIfInBounds_toArray, List.set_cons_zero, List.set_cons_succ]
        refine Steady.take ?_ rfl (by intro u hu; go_simp; with_reducible rfl) ?_
        simp only [Act.put, List.setIfInBounds_toArray, List.set_cons_zero, List.set_cons_succ]
        refine Steady.nil ?_
        clear HM
        intro w HM
        replace HM := Lib.hid HM
        refine Steady.phase 31 33 1 (by kernel_rfl) (by as_aux_lemma => kernel_rfl) HM.out ?_
        simp only [List.take_succ_cons, List.take_zero, List.drop_succ_cons, List.drop_zero]
        refine Steady.call _ _ _ rfl ?_ (Tape.keptI RA.out) ?_
        · intro u
          go_simp
        simp only [Act.put, List.setIfInBounds_toArray, List.set_cons_zero, List.set_cons_succ]
        refine Steady.take ?_ rfl (by intro u hu; go_simp; with_reducible rfl) ?_
        simp only [Act.put, List.setIfInBounds_toArray, List.set_cons_zero, List.set_cons_succ]
        refine Steady.nil ?_
        clear HM
        intro w HM
        replace HM := Lib.hid HM
        refine wpAnyH_take (i := 33) (by simp only [List.getElem?_toArray, List.getElem?_cons_succ, List.getElem?_cons_zero]; rfl) (by kernel_rfl) (by as_aux_lemma => kernel_rfl) (by as_aux_lemma => kernel_rfl) (fun _ _ _ h => by exact h) (.inl ⟨rfl, fun u hu => by go_simp; with_reducible rfl⟩) HM.out ?_
        simp only [List.getElem_toArray, List.getElem_cons_succ, List.getElem_cons_zero, Act.put, List.setIfInBounds_toArray, List.set_cons_zero, List.set_cons_succ]
        refine wpAnyH_done (by kernel_rfl) ?_ 0
        go_wp2
        go_ret
        exact ⟨by simp, HM.out.below⟩
      have d0 : decide ((A0 : Int) = B0) = true := by simp [h0]
      have c0 : ((A0 : Int) == B0) = true := by simp [h0]
      have d1 : decide ((A1 : Int) = B1) = true := by simp [h1]
      have c1 : ((A1 : Int) == B1) = true := by simp [h1]
      have d2 : decide ((A2 : Int) = B2) = true := by simp [h2]
      have c2 : ((A2 : Int) == B2) = true := by simp [h2]
      have d3 : decide ((A3 : Int) = B3) = true := by simp [h3]
      have c3 : ((A3 : Int) == B3) = true := by simp [h3]
      obtain rfl : xv = true := by rw [hxv.out]; simp only [d0, d1, d2, d3]; rfl
      obtain rfl : sv = true := by rw [hsv.out]; simp only [d0, d1, d2, d3, Bool.false_and, Bool.true_and, Bool.and_false, Bool.and_true]
      obtain rfl : dv = true := by rw [hdv.out]; simp only [d0]
      clear h0 h1 h2 h3
      go_upto_region 10 with (fail)
      replace HM := Lib.hid HM.out.drew
      refine wp_region_held (S := fun u => Hold.Hld _ _ u) (by kernel_rfl) (Steady.phase 0 6 28 (by kernel_rfl) (by as_aux_lemma => kernel_rfl) HM.out ?_)
      simp only [List.take_succ_cons, List.take_zero, List.drop_succ_cons, List.drop_zero]
      refine Steady.take ?_ rfl (by intro u hu; go_simp; with_reducible rfl) ?_
      simp only [Act.put, List.setIfInBounds_toArray, List.set_cons_zero, List.set_cons_succ]
      refine Steady.take (.agg [.int .i64 (A0 : Int), .int .i64 (A1 : Int), .int .i64 (A2 : Int), .int .i64 (A3 : Int)].toArray) rfl (fun u hu => Hold.load_run hu 0 rfl rfl rfl (Hold.Part.all _) fourRow) ?_
      simp only [Act.put, List.setIfInBounds_toArray, List.set_cons_zero, List.set_cons_succ]
      refine Steady.take (.agg [.int .i64 (B0 : Int), .int .i64 (B1 : Int), .int .i64 (B2 : Int), .int .i64 (B3 : Int)].toArray) rfl (fun u hu => Hold.load_run hu 1 rfl rfl rfl (Hold.Part.all _) fourRow) ?_
      simp only [Act.put, List.setIfInBounds_toArray, List.set_cons_zero, List.set_cons_succ]
      refine Steady.take (.bool true) rfl (fun u hu => eql_four rfl rfl rfl hxv.out u) ?_
      simp only [Act.put, List.setIfInBounds_toArray, List.set_cons_zero, List.set_cons_succ]
      refine Steady.take ?_ rfl (by intro u hu; go_simp; with_reducible rfl) ?_
      simp only [Act.put, List.setIfInBounds_toArray, List.set_cons_zero, List.set_cons_succ]
      refine Steady.take ?_ rfl (by intro u hu; go_simp; with_reducible rfl) ?_
      simp only [Act.put, List.setIfInBounds_toArray, List.set_cons_zero, List.set_cons_succ]
      refine Steady.nil ?_
      clear HM
      intro w HM
      replace HM := Lib.hid HM
      refine Steady.phase 6 11 23 (by kernel_rfl) (by as_aux_lemma => kernel_rfl) HM.out ?_
      simp only [List.take_succ_cons, List.take_zero, List.drop_succ_cons, List.drop_zero]
      refine Steady.take ?_ rfl (by intro u hu; go_simp; with_reducible rfl) ?_
      simp only [Act.put, List.setIfInBounds_toArray, List.set_cons_zero, List.set_cons_succ]
      refine Steady.take ?_ rfl (by intro u hu; go_simp; with_reducible rfl) ?_
      simp only [Act.put, List.setIfInBounds_toArray, List.set_cons_zero, List.set_cons_succ]
      refine Steady.take ?_ rfl (by intro u hu; go_simp; with_reducible rfl) ?_
      simp only [Act.put, List.setIfInBounds_toArray, List.set_cons_zero, List.set_cons_succ]
      refine Steady.take ?_ rfl (by intro u hu; go_simp; with_reducible rfl) ?_
      simp only [Act.put, List.setIfInBounds_toArray, List.set_cons_zero, List.set_cons_succ]
      refine Steady.take ?_ rfl (by intro u hu; go_simp; with_reducible rfl) ?_
      simp only [Act.put, List.setIfInBounds_toArray, List.set_cons_zero, List.set_cons_succ]
      refine Steady.nil ?_
      clear HM
      intro w HM
      replace HM := Lib.hid HM
      refine Steady.phase 11 16 18 (by kernel_rfl) (by as_aux_lemma => kernel_rfl) HM.out ?_
      simp only [List.take_succ_cons, List.take_zero, List.drop_succ_cons, List.drop_zero]
      refine Steady.take ?_ rfl (by intro u hu; go_simp; with_reducible rfl) ?_
      simp only [Act.put, List.setIfInBounds_toArray, List.set_cons_zero, List.set_cons_succ]
      refine Steady.take ?_ rfl (by intro u hu; go_simp; with_reducible rfl) ?_
      simp only [Act.put, List.setIfInBounds_toArray, List.set_cons_zero, List.set_cons_succ]
      refine Steady.take ?_ rfl (by intro u hu; go_simp; with_reducible rfl) ?_
      simp only [Act.put, List.setIfInBounds_toArray, List.set_cons_zero, List.set_cons_succ]
      refine Steady.take ?_ rfl (by intro u hu; go_simp; with_reducible rfl) ?_
      simp only [Act.put, List.setIfInBounds_toArray, List.set_cons_zero, List.set_cons_succ]
      refine Steady.take ?_ rfl (by intro u hu; go_simp; with_reducible rfl) ?_
      simp only [Act.put, List.setIfInBounds_toArray, List.set_cons_zero, List.set_cons_succ]
      refine Steady.nil ?_
      clear HM
      intro w HM
      replace HM := Lib.hid HM
      refine Steady.phase 16 31 3 (by kernel_rfl) (by as_aux_lemma => kernel_rfl) HM.out ?_
      simp only [List.take_succ_cons, List.take_zero, List.drop_succ_cons, List.drop_zero]
      refine Steady.take ?_ rfl (by intro u hu; go_simp; with_reducible rfl) ?_
      simp only [Act.put, List.setIfInBounds_toArray, List.set_cons_zero, List.set_cons_succ]
      refine Steady.take (.int .i64 (A0 : Int)) rfl (fun u hu => Hold.load1_run hu 0 rfl rfl rfl (rfl) (cellInt)) ?_
      simp only [Act.put, List.setIfInBounds_toArray, List.set_cons_zero, List.set_cons_succ]
      refine Steady.call _ _ _ rfl ?_ (Tape.keptI RDA.out) ?_
      · intro u
        go_simp
      simp only [Act.put, List.setIfInBounds_toArray, List.set_cons_zero, List.set_cons_succ]
      refine Steady.take ?_ rfl (by intro u hu; go_simp; with_reducible rfl) ?_
      simp only [Act.put, List.setIfInBounds_toArray, List.set_cons_zero, List.set_cons_succ]
      refine Steady.take (.int .i64 (B0 : Int)) rfl (fun u hu => Hold.load1_run hu 1 rfl rfl rfl (rfl) (cellInt)) ?_
      simp only [Act.put, List.setIfInBounds_toArray, List.set_cons_zero, List.set_cons_succ]
      refine Steady.call _ _ _ rfl ?_ (Tape.keptI RDB.out) ?_
      · intro u
        go_simp
      simp only [Act.put, List.setIfInBounds_toArray, List.set_cons_zero, List.set_cons_succ]
      refine Steady.take ?_ rfl (by intro u hu; go_simp; with_reducible rfl) ?_
      simp only [Act.put, List.setIfInBounds_toArray, List.set_cons_zero, List.set_cons_succ]
      refine Steady.take ?_ rfl (by intro u hu; go_simp; with_reducible rfl) ?_
      simp only [Act.put, List.setIfInBounds_toArray, List.set_cons_zero, List.set_cons_succ]
      refine Steady.take (.int .i64 (A0 : Int)) rfl (fun u hu => Hold.load1_run hu 0 rfl rfl rfl (rfl) (cellInt)) ?_
      simp only [Act.put, List.setIfInBounds_toArray, List.set_cons_zero, List.set_cons_succ]
      refine Steady.take ?_ rfl (by intro u hu; go_simp; with_reducible rfl) ?_
      simp only [Act.put, List.setIfInBounds_toArray, List.set_cons_zero, List.set_cons_succ]
      refine Steady.take (.int .i64 (B0 : Int)) rfl (fun u hu => Hold.load1_run hu 1 rfl rfl rfl (rfl) (cellInt)) ?_
      simp only [Act.put, List.setIfInBounds_toArray, List.set_cons_zero, List.set_cons_succ]
      refine Steady.take ?_ rfl (by intro u hu; go_simp; with_reducible rfl) ?_
      simp only [Act.put, List.setIfInBounds_toArray, List.set_cons_zero, List.set_cons_succ]
      refine Steady.take ?_ rfl (by intro u hu; go_simp; with_reducible rfl) ?_
      simp only [Act.put, List.setIfInBounds_toArray, List.set_cons_zero, List.set_cons_succ]
      refine Steady.take ?_ rfl (by intro u hu; go_simp; with_reducible rfl) ?_
      simp only [Act.put, List.setIfInBounds_toArray, List.set_cons_zero, List.set_cons_succ]
      refine Steady.take ?_ rfl (by intro u hu; go_simp; with_reducible rfl) ?_
      simp only [Act.put, List.setIfInBounds_toArray, List.set_cons_zero, List.set_cons_succ]
      refine Steady.nil ?_
      clear HM
      intro w HM
      replace HM := Lib.hid HM
      refine Steady.phase 31 33 1 (by kernel_rfl) (by as_aux_lemma => kernel_rfl) HM.out ?_
      simp only [List.take_succ_cons, List.take_zero, List.drop_succ_cons, List.drop_zero]
      refine Steady.call _ _ _ rfl ?_ (Tape.keptI RA.out) ?_
      · intro u
        go_simp
      simp only [Act.put, List.setIfInBounds_toArray, List.set_cons_zero, List.set_cons_succ]
      refine Steady.take ?_ rfl (by intro u hu; go_simp; with_reducible rfl) ?_
      simp only [Act.put, List.setIfInBounds_toArray, List.set_cons_zero, List.set_cons_succ]
      refine Steady.nil ?_
      clear HM
      intro w HM
      replace HM := Lib.hid HM
      refine wpAnyH_take (i := 33) (by simp only [List.getElem?_toArray, List.getElem?_cons_succ, List.getElem?_cons_zero]; rfl) (by kernel_rfl) (by as_aux_lemma => kernel_rfl) (by as_aux_lemma => kernel_rfl) (fun _ _ _ h => by exact h) (.inl ⟨rfl, fun u hu => by go_simp; with_reducible rfl⟩) HM.out ?_
      simp only [List.getElem_toArray, List.getElem_cons_succ, List.getElem_cons_zero, Act.put, List.setIfInBounds_toArray, List.set_cons_zero, List.set_cons_succ]
      refine wpAnyH_done (by kernel_rfl) ?_ 0
      go_wp2
      go_ret
      exact ⟨by simp, HM.out.below⟩

set_option maxHeartbeats 1600000 in
theorem lifted (os : Os) (started : os.Started) (H : Type) (enc : TypeId × Value → H) :
    ReturnsInHanded {} Tryd.checked os 5 .any (fun w args => (Rows.tapeNamesSpec.pre enc Tryd.prog Tryd.f5 [] false w args ∧ laidMetH Tryd.prog Tape.laidL w) ∧ sizedMet enc Tryd.prog Tryd.f5 (OpenSpec.ofChange Rows.tapeNamesSpec) false w args)
      (Rows.tapeNamesSpec.post enc Tryd.prog Tryd.f5 false true false false) := by
  refine returnsInHanded_of_change_and (C := Tryd.checked) (X := fun w _ => laidMetH Tryd.prog Tape.laidL w) (fun _ _ _ hh h => h.of_heap hh) Tape.own started (by kernel_rfl) Tryd.func5
    (ChangeSpec.witness_shaped (enc := enc) (C := Tryd.checked) (os := os) (X := fun w _ => laidMetH Tryd.prog Tape.laidL w) false (World.doorLaid Tryd.prog 400 os) #[.agg #[.int .i64 0, .int .i64 0, .int .i64 0, .int .i64 0], .agg #[.int .i64 0, .int .i64 0, .int .i64 0, .int .i64 0]] 8 rfl (World.shaped_of_RefB (by kernel_rfl) (by kernel_rfl)) (by kernel_rfl) (by kernel_rfl) (by kernel_rfl) (Tape.door_met os _)) ?_
  intro W base args ds gs before hval0 hW _ hsz0 hL _
  have hval : ∀ (j : Nat) t v, Tryd.f5.params[j]? = some t → args[j]? = some v → Value.okWide Tryd.prog W .any base t v := hval0
  have hsz : (DataW.weightsEach Tryd.prog (Tryd.f5.params.toList ++ Rows.tapeNamesSpec.plain.varTypes Tryd.prog) (ds ++ gs)).all (· ≤ reachBytes) = true := hsz0
  clear hsz0
  have hW' := hW
  obtain ⟨p, q, hA0, hV, rfl, hfz, hnd⟩ := hW
  have hA : DataW.TrodAll enc Tryd.prog W 0 (fun _ => true) true Tryd.f5.params.toList args.toList ds p := hA0
  rw [Tryd.params5] at hA hval hsz
  obtain ⟨v0, vs0, d0, ds0, p0, q0, hargs, rfl, rfl, h0, r0⟩ := trodAll_cons hA
  obtain ⟨v1, vs1, d1, ds1, p1, q1, rfl, rfl, rfl, h1, r1⟩ := trodAll_cons r0
  obtain ⟨rfl, rfl, rfl⟩ := trodAll_nil r1
  obtain rfl : args = #[v0, v1] := by cases args; simp_all
  obtain ⟨rfl, rfl⟩ := trodVars_none hV
  have k0 := h0
  have lt0 : ∀ x ∈ p0, x.block < W.heap.size := by obtain ⟨m, hm⟩ := k0; exact DataW.trod_lt m _ _ _ hm
  obtain ⟨ia0, ib0, ic0, id0, rfl, x0, y0, z0, u0⟩ := TpO.open_four (hval 0 24 v0 rfl rfl) h0
  have k1 := h1
  have lt1 : ∀ x ∈ p1, x.block < W.heap.size := by obtain ⟨m, hm⟩ := k1; exact DataW.trod_lt m _ _ _ hm
  obtain ⟨ia1, ib1, ic1, id1, rfl, x1, y1, z1, u1⟩ := TpO.open_four (hval 1 24 v1 rfl rfl) h1
  have hcl := Tape.of_laid hL
  clear hA0 hval0
  refine (walk ia0 ib0 ic0 id0 ia1 ib1 ic1 id1 W   hcl).mono fun e W' ⟨he, bel⟩ => ?_
  subst he
  exact ⟨_, rfl, _, _, _, [], _, [], hW', trodAll_mk1 (shut_bool Tryd.underlying4 _), (trodAll_cons_mk (Below.trod Tape.laidOut (by kernel_rfl) (of_decide_eq_true (by kernel_rfl)) k0 bel lt0) (trodAll_cons_mk (Below.trod Tape.laidOut (by kernel_rfl) (of_decide_eq_true (by kernel_rfl)) k1 bel lt1) trodAll_mk0)), rfl, bel.frame _, fun h => by cases h⟩

theorem over : Rows.TapeNamesSaid :=
  OpenClaim.holds_of_wide 5 Tryd.f5 rfl rfl rfl rfl rfl rfl rfl ⟨rfl, rfl, rfl, rfl, rfl⟩ rfl rfl rfl rfl rfl (by kernel_rfl) Tryd.func5 (by kernel_rfl)
    (of_decide_eq_true (by kernel_rfl)) (by unfold Func.isWrapper; first | (rw [if_pos (by decide +kernel)]; kernel_rfl) | (rw [if_neg (by decide +kernel)]; exact ⟨rfl, rfl⟩))
    (fun os started H enc _ => lifted os started H enc)

theorem proved : Rows.TapeNamesCardSaid :=
  Claim7.holds_tied_plain_at .later [] [.data, .data, .data] true Rows.tapeNamesCard.stood.harness false
    over (fun _ h => by cases h) (by kernel_rfl) (fun _ h => by cases h) tapeNames_row_tie rfl ⟨rfl, rfl⟩ (by kernel_rfl) rfl
    (fun f fn hf hfn => by
      obtain rfl : f = 5 := Option.some.inj ((show Tryd.prog.funcNamed "murmur/murmurlaw15.TapeNames" = some 5 by kernel_rfl).symm.trans hf) |>.symm
      obtain rfl : fn = Tryd.f5 := (Option.some.inj (Tryd.func5.symm.trans hfn)).symm
      exact ⟨by kernel_rfl, fun j t ht => by
        rw [Tryd.params5] at ht
        have hm : t ∈ [24, 24] := by simpa using Array.mem_of_getElem? ht
        have hall : ([24, 24].all fun u => !Tryd.prog.wantsStandIn u) = true := by kernel_rfl
        exact (show Tryd.prog.wantsStandIn t = false by simpa using List.all_eq_true.1 hall t hm)⟩)
    (by kernel_rfl)
#print axioms proved
end Go.Proofs.YtpamdpfgcbadhaaDoor.LawTNm
