/-
  LetterBack: what is read of any bytes, as any kind, is of that kind, and laid so again: for every kind and every text the law answers true and changes nothing that was there. Condition: none.
-/
import Derived.Test.YtlinpbmglcjkkaaRows
import Derived.Test.YtlinpbmglcjkkaaLetW
import Derived.Test.YtlinpbmglcjkkaaLetN
import Derived.Test.YtlinpbmglcjkkaaLawPOpen
namespace Go.Proofs.Ytlinpbmglcjkkaa.LawLBk
open Go.ChangeShapes Go.WideShapes Go.ChangeAt Go.RowKit Mur Prt Cod Let LetA
open RLet (okB okL okN)
open Go.ChangeMaps (open_string shut_string)
set_option maxRecDepth 100000

theorem rest_of (x : Int) (q : Nat) (h1 : 0 < q) (h2 : q ≤ 1000) : ∃ m : Nat, m < q ∧ wrap64 ((IntKind.u64.wrap x).tmod (q : Int)) = (m : Int) := by
  rw [IntKind.wrap_u64, Int.tmod_eq_emod_of_nonneg (by omega)]
  have h3 : 0 ≤ x % 18446744073709551616 % (q : Int) := Int.emod_nonneg _ (by omega)
  have h4 : x % 18446744073709551616 % (q : Int) < q := Int.emod_lt_of_pos _ (by omega)
  refine ⟨(x % 18446744073709551616 % (q : Int)).toNat, by omega, ?_⟩
  rw [IntWalk.wrap64_in _ (by omega)]
  omega

set_option maxHeartbeats 3200000 in
theorem walk (k : Int) (s : ByteArray) (w : World) (_ : -9223372036854775808 ≤ k ∧ k ≤ 9223372036854775807) :
    Calls Try.prog 5 #[.int .i64 k, .string s] w fun e w' => e = .returned (.bool true) ∧ Below w.heap.size w w' := by
  have RA := Lib.hid awake_any
  have RN := Lib.hid kindNil_any
  by_cases hg : 8000 < s.size
  · have d1 : decide (8000 < (s.size : Int)) = true := decide_eq_true (by omega)
    have d2 : decide (8000 < s.size) = true := decide_eq_true hg
    clear hg
    go_enter Try.func5, Try.ntmps5
    go_wp2_with fail
    refine (RA.out _).mono ?_
    rintro e w1 ⟨rfl, hb⟩
    go_wp2
    go_ret
    exact ⟨rfl, hb⟩
  have d1 : decide (8000 < (s.size : Int)) = false := decide_eq_false (by omega)
  have d2 : decide (8000 < s.size) = false := decide_eq_false hg
  have hs : s.size ≤ 1000000000 := by omega
  obtain ⟨m, hm, hw⟩ := rest_of k 6 (by omega) (by omega)
  clear hg
  go_enter Try.func5, Try.ntmps5
  go_upto_region 4 with (fail)
  obtain ⟨K, hK⟩ : ∃ K : Int, K = (m : Int) + 1 := ⟨_, rfl⟩
  have hw6 : wrap64 (1 + wrap64 ((IntKind.u64.wrap k).tmod 6)) = K := by
    rw [show wrap64 ((IntKind.u64.wrap k).tmod 6) = (m : Int) from hw, IntWalk.wrap64_in _ (by omega)]
    omega
  rw [hw6]
  have hKs : K = 1 ∨ K = 2 ∨ K = 3 ∨ K = 4 ∨ K = 5 ∨ K = 6 := by omega
  clear hw hw6 hK hm d1 d2
  obtain rfl | rfl | rfl | rfl | rfl | rfl := hKs
  · cases hr : readCast s.data.toList with
    | error y =>
      have hy : 1 ≤ y ∧ y ≤ 4 := readCast_errs _ _ hr
      have R1 := Lib.hid (fun u => readCast_no s (y : Int) u (by rw [hr]; rfl) (by omega) hs)
      have hne : ((y : Int) != 0) = true := by simp; omega
      clear hr hy
      go_wp2_with ((first
        | (with_reducible (refine (R1.out _).mono ?_; rintro e w1 ⟨rfl, hb1⟩; have HB := Lib.hid hb1; clear hb1))
        | (with_reducible (refine (RN.out _).mono ?_; rintro e w3 ⟨rfl, hb3⟩; replace HB := Lib.hid (HB.out.trans (hb3.mono HB.out.size)); clear hb3))
        | (with_reducible (refine (RA.out _).mono ?_; rintro e w2 ⟨rfl, hb2⟩; replace HB := Lib.hid (HB.out.trans (hb2.mono HB.out.size)); clear hb2))))

      go_ret
      exact ⟨rfl, HB.out⟩
    | ok x =>
      obtain ⟨b, hxe⟩ : ∃ v, v = x := ⟨_, rfl⟩
      subst hxe
      have hl := cast_laid _ _ hr
      have R1 := Lib.hid (fun u => readCast_ok s (tx b) 0 u (by rw [hr]; rfl) (by rw [hr]; rfl) rfl hs)
      have R2 := Lib.hid (fun u => layCast_all (tx b) s 0 u (by rw [(show str (tx b).data.toList = .ok s.data.toList from hl)]; exact (tx_data s).symm) (by rw [(show str (tx b).data.toList = .ok s.data.toList from hl)]; rfl) (by have := str_fits _ _ hl; show b.length ≤ _; omega))
      have RK := Lib.hid (fun u => kindCast_any (tx b) u)
      have hne : ((0 : Int) != 0) = false := by simp
      clear hr hl
      generalize tx b = B at R1 R2 RK
      go_wp2_with ((first
        | (with_reducible (refine (R1.out _).mono ?_; rintro e w1 ⟨rfl, hb1⟩; have HB := Lib.hid hb1; clear hb1))
        | (with_reducible (refine (R2.out _).mono ?_; rintro e w2 ⟨rfl, hb2⟩; replace HB := Lib.hid (HB.out.trans (hb2.mono HB.out.size)); clear hb2))
        | (with_reducible (refine (RK.out _).mono ?_; rintro e w3 ⟨rfl, hb3⟩; replace HB := Lib.hid (HB.out.trans (hb3.mono HB.out.size)); clear hb3))
        | (with_reducible (refine (RA.out _).mono ?_; rintro e w4 ⟨rfl, hb4⟩; replace HB := Lib.hid (HB.out.trans (hb4.mono HB.out.size)); clear hb4))))

      go_ret
      exact ⟨by simp, HB.out⟩
  · cases hr : readList s.data.toList with
    | error y =>
      have hy : 1 ≤ y ∧ y ≤ 4 := readList_errs _ _ hr
      have R1 := Lib.hid (fun u => readList_no s (y : Int) u (by rw [hr]; rfl) (by omega) hs)
      have hne : ((y : Int) != 0) = true := by simp; omega
      clear hr hy
      go_wp2_with ((first
        | (with_reducible (refine (R1.out _).mono ?_; rintro e w1 ⟨rfl, hb1⟩; have HB := Lib.hid hb1; clear hb1))
        | (with_reducible (refine (RN.out _).mono ?_; rintro e w3 ⟨rfl, hb3⟩; replace HB := Lib.hid (HB.out.trans (hb3.mono HB.out.size)); clear hb3))
        | (with_reducible (refine (RA.out _).mono ?_; rintro e w2 ⟨rfl, hb2⟩; replace HB := Lib.hid (HB.out.trans (hb2.mono HB.out.size)); clear hb2))))

      go_ret
      exact ⟨rfl, HB.out⟩
    | ok x =>
      obtain ⟨l, n⟩ := x
      have hl := list_laid _ _ _ hr
      have R1 := Lib.hid (fun u => readList_ok s l (n : Int) 0 u (by rw [hr]; rfl) (by rw [hr]; rfl) (by rw [hr]; rfl) rfl hs)
      obtain ⟨⟨f1, f2⟩, f3⟩ := list_parts _ _ _ hl
      have R2 := Lib.hid (fun u ao c (hi : IntsR u ao (zl l)) => layList_all (zl l) l.length ao c (n : Int) s 0 u (by rw [zl_ints, hl]; exact (tx_data s).symm) (by rw [zl_ints, hl]; rfl) hi (zl_length l) (by rw [Ros.ints_length] at f1; omega) f2 f3.1 f3.2)
      have RK := Lib.hid (fun u ao c => kindList_any l.length ao c (n : Int) u)
      have hne : ((0 : Int) != 0) = false := by simp
      clear hr hl f1 f2 f3
      generalize (n : Int) = N at R1 R2 RK
      generalize l.length = M at R1 R2 RK
      go_wp2_with ((first
        | (with_reducible (refine (R1.out _).mono ?_; rintro e w1 ⟨ao, c, rfl, hi, -, hb1⟩; have HI := Lib.hid hi; have HB := Lib.hid hb1; clear hb1 hi))
        | (with_reducible (refine (R2.out _ _ _ HI.out).mono ?_; rintro e w2 ⟨rfl, hb2⟩; replace HB := Lib.hid (HB.out.trans (hb2.mono HB.out.size)); replace HI := Lib.hid (HI.out.below hb2); clear hb2))
        | (with_reducible (refine (RK.out _ _ _).mono ?_; rintro e w3 ⟨rfl, hb3⟩; replace HB := Lib.hid (HB.out.trans (hb3.mono HB.out.size)); clear hb3))
        | (with_reducible (refine (RA.out _).mono ?_; rintro e w4 ⟨rfl, hb4⟩; replace HB := Lib.hid (HB.out.trans (hb4.mono HB.out.size)); clear hb4))))

      go_ret
      exact ⟨by simp, HB.out⟩
  · cases hr : readPledge s.data.toList with
    | error y =>
      have hy : 1 ≤ y ∧ y ≤ 4 := (show 1 ≤ y ∧ y ≤ 4 by have := readPledge_errs _ _ hr; omega)
      have R1 := Lib.hid (fun u => readPledge_no s (y : Int) u (by rw [hr]; rfl) (by omega) hs)
      have hne : ((y : Int) != 0) = true := by simp; omega
      clear hr hy
      go_wp2_with ((first
        | (with_reducible (refine (R1.out _).mono ?_; rintro e w1 ⟨rfl, hb1⟩; have HB := Lib.hid hb1; clear hb1))
        | (with_reducible (refine (RN.out _).mono ?_; rintro e w3 ⟨rfl, hb3⟩; replace HB := Lib.hid (HB.out.trans (hb3.mono HB.out.size)); clear hb3))
        | (with_reducible (refine (RA.out _).mono ?_; rintro e w2 ⟨rfl, hb2⟩; replace HB := Lib.hid (HB.out.trans (hb2.mono HB.out.size)); clear hb2))))

      go_ret
      exact ⟨rfl, HB.out⟩
    | ok x =>
      obtain ⟨b, hxe⟩ : ∃ v, v = x := ⟨_, rfl⟩
      subst hxe
      have hl := pledge_laid _ _ hr
      have R1 := Lib.hid (fun u => readPledge_ok s (tx b) 0 u (by rw [hr]; rfl) (by rw [hr]; rfl) rfl hs)
      have R2 := Lib.hid (fun u => layPledge_all (tx b) s 0 u (by rw [(show layPledge (tx b).data.toList = .ok s.data.toList from hl)]; exact (tx_data s).symm) (by rw [(show layPledge (tx b).data.toList = .ok s.data.toList from hl)]; rfl))
      have RK := Lib.hid (fun u => kindPledge_any (tx b) u)
      have hne : ((0 : Int) != 0) = false := by simp
      clear hr hl
      generalize tx b = B at R1 R2 RK
      go_wp2_with ((first
        | (with_reducible (refine (R1.out _).mono ?_; rintro e w1 ⟨rfl, hb1⟩; have HB := Lib.hid hb1; clear hb1))
        | (with_reducible (refine (R2.out _).mono ?_; rintro e w2 ⟨rfl, hb2⟩; replace HB := Lib.hid (HB.out.trans (hb2.mono HB.out.size)); clear hb2))
        | (with_reducible (refine (RK.out _).mono ?_; rintro e w3 ⟨rfl, hb3⟩; replace HB := Lib.hid (HB.out.trans (hb3.mono HB.out.size)); clear hb3))
        | (with_reducible (refine (RA.out _).mono ?_; rintro e w4 ⟨rfl, hb4⟩; replace HB := Lib.hid (HB.out.trans (hb4.mono HB.out.size)); clear hb4))))

      go_ret
      exact ⟨by simp, HB.out⟩
  · cases hr : readShare s.data.toList with
    | error y =>
      have hy : 1 ≤ y ∧ y ≤ 4 := readShare_errs _ _ hr
      have R1 := Lib.hid (fun u => readShare_no s (y : Int) u (by rw [hr]; rfl) (by omega) hs)
      have hne : ((y : Int) != 0) = true := by simp; omega
      clear hr hy
      go_wp2_with ((first
        | (with_reducible (refine (R1.out _).mono ?_; rintro e w1 ⟨rfl, hb1⟩; have HB := Lib.hid hb1; clear hb1))
        | (with_reducible (refine (RN.out _).mono ?_; rintro e w3 ⟨rfl, hb3⟩; replace HB := Lib.hid (HB.out.trans (hb3.mono HB.out.size)); clear hb3))
        | (with_reducible (refine (RA.out _).mono ?_; rintro e w2 ⟨rfl, hb2⟩; replace HB := Lib.hid (HB.out.trans (hb2.mono HB.out.size)); clear hb2))))

      go_ret
      exact ⟨rfl, HB.out⟩
    | ok x =>
      obtain ⟨b, ms⟩ := x
      have hl := share_laid _ _ _ hr
      have R1 := Lib.hid (fun u => readShare_ok s (tx b) ms 0 u (by rw [hr]; rfl) (by rw [hr]; rfl) (by rw [hr]; rfl) rfl hs)
      obtain ⟨f1, f2, f3⟩ := share_parts _ _ _ hl
      have he : Ros.glue (str (tx b).data.toList) (layAll strB (tl ms)) = .ok s.data.toList := by rw [strB_tl]; exact hl
      have R2 := Lib.hid (fun u ao c (hi : StrsR u ao (tl ms)) => layShare_all (tx b) (tl ms) ms.length ao c s 0 u (by rw [he]; exact (tx_data s).symm) (by rw [he]; rfl) hi (tl_length ms) (by rw [tl_length] at f2; omega) f3 (by show b.length ≤ _; omega))
      have RK := Lib.hid (fun u ao c (hi : StrsR u ao (tl ms)) => kindShare_any (tx b) (tl ms) ms.length ao c u hi (tl_length ms) (by rw [tl_length] at f2; omega))
      have hne : ((0 : Int) != 0) = false := by simp
      clear hr hl f1 f2 f3 he
      generalize tx b = B at R1 R2 RK
      generalize ms.length = M at R1 R2 RK
      go_wp2_with ((first
        | (with_reducible (refine (R1.out _).mono ?_; rintro e w1 ⟨ao, c, rfl, hi, -, hb1⟩; have HI := Lib.hid hi; have HB := Lib.hid hb1; clear hb1 hi))
        | (with_reducible (refine (R2.out _ _ _ HI.out).mono ?_; rintro e w2 ⟨rfl, hb2⟩; replace HB := Lib.hid (HB.out.trans (hb2.mono HB.out.size)); replace HI := Lib.hid (HI.out.below hb2); clear hb2))
        | (with_reducible (refine (RK.out _ _ _ HI.out).mono ?_; rintro e w3 ⟨rfl, hb3⟩; replace HB := Lib.hid (HB.out.trans (hb3.mono HB.out.size)); clear hb3))
        | (with_reducible (refine (RA.out _).mono ?_; rintro e w4 ⟨rfl, hb4⟩; replace HB := Lib.hid (HB.out.trans (hb4.mono HB.out.size)); clear hb4))))

      go_ret
      exact ⟨by simp, HB.out⟩
  · cases hr : readCert s.data.toList with
    | error y =>
      have hy : 1 ≤ y ∧ y ≤ 4 := readCert_errs _ _ hr
      have R1 := Lib.hid (fun u => readCert_no s (y : Int) u (by rw [hr]; rfl) (by omega) hs)
      have hne : ((y : Int) != 0) = true := by simp; omega
      clear hr hy
      go_wp2_with ((first
        | (with_reducible (refine (R1.out _).mono ?_; rintro e w1 ⟨rfl, hb1⟩; have HB := Lib.hid hb1; clear hb1))
        | (with_reducible (refine (RN.out _).mono ?_; rintro e w3 ⟨rfl, hb3⟩; replace HB := Lib.hid (HB.out.trans (hb3.mono HB.out.size)); clear hb3))
        | (with_reducible (refine (RA.out _).mono ?_; rintro e w2 ⟨rfl, hb2⟩; replace HB := Lib.hid (HB.out.trans (hb2.mono HB.out.size)); clear hb2))))

      go_ret
      exact ⟨rfl, HB.out⟩
    | ok x =>
      obtain ⟨⟨b, l⟩, n⟩ := x
      have hl := cert_laid _ _ _ _ hr
      have R1 := Lib.hid (fun u => readCert_ok s (tx b) l (n : Int) 0 u (by rw [hr]; rfl) (by rw [hr]; rfl) (by rw [hr]; rfl) (by rw [hr]; rfl) rfl hs)
      obtain ⟨f1, ⟨f2, f3⟩, f4⟩ := cert_parts _ _ _ _ hl
      have R2 := Lib.hid (fun u ao c (hi : IntsR u ao (zl l)) => layCert_all (tx b) (zl l) l.length ao c (n : Int) s 0 u (by rw [zl_ints]; show s = layX (layCert b (Ros.ints l) (n : Int)); rw [hl]; exact (tx_data s).symm) (by rw [zl_ints]; show 0 = errV (layCert b (Ros.ints l) (n : Int)); rw [hl]; rfl) hi (zl_length l) (by rw [Ros.ints_length] at f2; omega) f3 f4.1 f4.2 (by show b.length ≤ _; omega))
      have RK := Lib.hid (fun u ao c => kindCert_any (tx b) l.length ao c (n : Int) u)
      have hne : ((0 : Int) != 0) = false := by simp
      clear hr hl f1 f2 f3 f4
      generalize tx b = B at R1 R2 RK
      generalize (n : Int) = N at R1 R2 RK
      generalize l.length = M at R1 R2 RK
      go_wp2_with ((first
        | (with_reducible (refine (R1.out _).mono ?_; rintro e w1 ⟨ao, c, rfl, hi, -, hb1⟩; have HI := Lib.hid hi; have HB := Lib.hid hb1; clear hb1 hi))
        | (with_reducible (refine (R2.out _ _ _ HI.out).mono ?_; rintro e w2 ⟨rfl, hb2⟩; replace HB := Lib.hid (HB.out.trans (hb2.mono HB.out.size)); replace HI := Lib.hid (HI.out.below hb2); clear hb2))
        | (with_reducible (refine (RK.out _ _ _).mono ?_; rintro e w3 ⟨rfl, hb3⟩; replace HB := Lib.hid (HB.out.trans (hb3.mono HB.out.size)); clear hb3))
        | (with_reducible (refine (RA.out _).mono ?_; rintro e w4 ⟨rfl, hb4⟩; replace HB := Lib.hid (HB.out.trans (hb4.mono HB.out.size)); clear hb4))))

      go_ret
      exact ⟨by simp, HB.out⟩
  · cases hr : readOut s.data.toList with
    | error y =>
      have hy : 1 ≤ y ∧ y ≤ 4 := readOut_errs _ _ hr
      have R1 := Lib.hid (fun u => readOut_no s (y : Int) u (by rw [hr]; rfl) (by omega) hs)
      have hne : ((y : Int) != 0) = true := by simp; omega
      clear hr hy
      go_wp2_with ((first
        | (with_reducible (refine (R1.out _).mono ?_; rintro e w1 ⟨rfl, hb1⟩; have HB := Lib.hid hb1; clear hb1))
        | (with_reducible (refine (RN.out _).mono ?_; rintro e w3 ⟨rfl, hb3⟩; replace HB := Lib.hid (HB.out.trans (hb3.mono HB.out.size)); clear hb3))
        | (with_reducible (refine (RA.out _).mono ?_; rintro e w2 ⟨rfl, hb2⟩; replace HB := Lib.hid (HB.out.trans (hb2.mono HB.out.size)); clear hb2))))

      go_ret
      exact ⟨rfl, HB.out⟩
    | ok x =>
      obtain ⟨ms, hxe⟩ : ∃ v, v = x := ⟨_, rfl⟩
      subst hxe
      have hl := out_laid _ _ hr
      have R1 := Lib.hid (fun u => readOut_ok s ms 0 u (by rw [hr]; rfl) (by rw [hr]; rfl) rfl hs)
      obtain ⟨f1, f2⟩ := strs_fit _ _ hl
      have he : layAll strB (tl ms) = .ok s.data.toList := by rw [strB_tl]; exact hl
      have R2 := Lib.hid (fun u ao c (hi : StrsR u ao (tl ms)) => layOut_all (tl ms) ms.length ao c s 0 u (by rw [he]; exact (tx_data s).symm) (by rw [he]; rfl) hi (tl_length ms) (by rw [tl_length] at f1; omega) f2)
      have RK := Lib.hid (fun u ao c (hi : StrsR u ao (tl ms)) => kindOut_any (tl ms) ms.length ao c u hi (tl_length ms) (by rw [tl_length] at f1; omega))
      have hne : ((0 : Int) != 0) = false := by simp
      clear hr hl f1 f2 he
      generalize ms.length = M at R1 R2 RK
      go_wp2_with ((first
        | (with_reducible (refine (R1.out _).mono ?_; rintro e w1 ⟨ao, c, rfl, hi, -, hb1⟩; have HI := Lib.hid hi; have HB := Lib.hid hb1; clear hb1 hi))
        | (with_reducible (refine (R2.out _ _ _ HI.out).mono ?_; rintro e w2 ⟨rfl, hb2⟩; replace HB := Lib.hid (HB.out.trans (hb2.mono HB.out.size)); replace HI := Lib.hid (HI.out.below hb2); clear hb2))
        | (with_reducible (refine (RK.out _ _ _ HI.out).mono ?_; rintro e w3 ⟨rfl, hb3⟩; replace HB := Lib.hid (HB.out.trans (hb3.mono HB.out.size)); clear hb3))
        | (with_reducible (refine (RA.out _).mono ?_; rintro e w4 ⟨rfl, hb4⟩; replace HB := Lib.hid (HB.out.trans (hb4.mono HB.out.size)); clear hb4))))

      go_ret
      exact ⟨by simp, HB.out⟩

theorem own : ownKnob Try.prog.godebug = none := by kernel_rfl
theorem laidOut : laidOutB Try.prog = true := by kernel_rfl

theorem lifted (os : Os) (started : os.Started) (H : Type) (enc : TypeId × Value → H) :
    ReturnsInHanded {} Try.checked os 5 .any (Rows.letterBackSpec.pre6 enc Try.prog Try.f5 Rows.letterBackRow.domain false) (Rows.letterBackSpec.post enc Try.prog Try.f5 false true false false) := by
  refine returnsInHanded_of_change (C := Try.checked) own started (by kernel_rfl) Try.func5
    (ChangeSpec.witness6 (enc := enc) (C := Try.checked) false ⟨#[], #[.int .i64 0, .string ByteArray.empty], []⟩ 8 (by kernel_rfl) (by kernel_rfl) (by kernel_rfl) (by kernel_rfl)) ?_
  intro W base args ds gs before hval0 hW hcnd _
  have hval : ∀ (j : Nat) t v, Try.f5.params[j]? = some t → args[j]? = some v → Value.okWide Try.prog W .any base t v := hval0
  have hW' := hW
  obtain ⟨p, q, hA0, hV, rfl, hfz, hnd⟩ := hW
  have hA : DataW.TrodAll enc Try.prog W 0 (fun _ => true) true Try.f5.params.toList args.toList ds p := hA0
  rw [Try.params5] at hA hval
  obtain ⟨v0, vs0, d0, ds0, p0, q0, hargs, rfl, rfl, h0, r0⟩ := trodAll_cons hA
  obtain ⟨v1, vs1, d1, ds1, p1, q1, rfl, rfl, rfl, h1, r1⟩ := trodAll_cons r0
  obtain ⟨rfl, rfl, rfl⟩ := trodAll_nil r1
  obtain rfl : args = #[v0, v1] := by cases args; simp_all
  obtain ⟨rfl, rfl⟩ := trodVars_none hV
  obtain ⟨a0, rfl, rfl, rfl, w0⟩ := open_int Try.underlying3 (hval 0 3 v0 rfl rfl) h0
  obtain ⟨a1, rfl, rfl, rfl, w1⟩ := open_string Try.underlying9 (hval 1 9 v1 rfl rfl) h1
  clear hA0 hval0
  refine (walk a0 a1 W (int_wf w0)).mono fun e W' ⟨he, bel⟩ => ?_
  subst he
  exact ⟨_, rfl, _, _, _, [], _, [], hW', trodAll_mk1 (shut_bool Try.underlying4 _), (trodAll_cons_mk (shut_int Try.underlying3 w0) (trodAll_cons_mk (shut_string Try.underlying9 w1) trodAll_mk0)), rfl, bel.frame _, fun h => by cases h⟩

theorem over : Rows.letterBackRow.holds Try.pinned (OpenSpec.ofChange Rows.letterBackSpec) :=
  OpenClaim.holds_of_wide 5 Try.f5 rfl rfl rfl rfl rfl rfl rfl ⟨rfl, rfl, rfl, rfl, rfl⟩ rfl rfl rfl rfl rfl (by kernel_rfl) Try.func5 (by kernel_rfl)
    (of_decide_eq_true (by kernel_rfl)) (by unfold Func.isWrapper; first | (rw [if_pos (by decide +kernel)]; kernel_rfl) | (rw [if_neg (by decide +kernel)]; exact ⟨rfl, rfl⟩))
    (fun os started H enc _ => lifted os started H enc)

theorem proved : Rows.LetterBackSaid := over
#print axioms proved
end Go.Proofs.Ytlinpbmglcjkkaa.LawLBk
