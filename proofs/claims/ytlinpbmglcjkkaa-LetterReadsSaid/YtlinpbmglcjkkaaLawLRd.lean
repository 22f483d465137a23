/-
  LetterReads: of any bytes the code reads, as each kind, what the document does: for every text the law answers true and changes nothing that was there. Condition: none.
-/
import Derived.Test.YtlinpbmglcjkkaaRows
import Derived.Test.YtlinpbmglcjkkaaLetW
import Derived.Test.YtlinpbmglcjkkaaLetN
import Derived.Test.YtlinpbmglcjkkaaLetH
import Derived.Test.YtlinpbmglcjkkaaLawPOpen
namespace Go.Proofs.Ytlinpbmglcjkkaa.LawLRd
open Go.ChangeShapes Go.WideShapes Go.ChangeAt Go.RowKit Mur Prt Cod Let
open RLet (okB okL okN)
open Go.ChangeMaps (open_string shut_string)
set_option maxRecDepth 100000

theorem list_few (s : List UInt8) : (okL (fun x => x.1) (readList s)).length ≤ 255 := by
  cases hr : readList s with
  | error y => exact Nat.zero_le _
  | ok x =>
    obtain ⟨l, n⟩ := x
    have := (list_parts _ _ _ (list_laid _ _ _ hr)).1.1
    rw [Ros.ints_length] at this
    exact this
theorem share_few (s : List UInt8) : (okL (fun x => x.2) (readShare s)).length ≤ 255 := by
  cases hr : readShare s with
  | error y => exact Nat.zero_le _
  | ok x =>
    obtain ⟨b, m⟩ := x
    have := (share_parts _ _ _ (share_laid _ _ _ hr)).2.1
    rw [tl_length] at this
    exact this
theorem cert_few (s : List UInt8) : (okL (fun x => x.1.2) (readCert s)).length ≤ 255 := by
  cases hr : readCert s with
  | error y => exact Nat.zero_le _
  | ok x =>
    obtain ⟨⟨b, l⟩, n⟩ := x
    have := (cert_parts _ _ _ _ (cert_laid _ _ _ _ hr)).2.1.1
    rw [Ros.ints_length] at this
    exact this
theorem out_few (s : List UInt8) : (okL (fun x => x) (readOut s)).length ≤ 255 := by
  cases hr : readOut s with
  | error y => exact Nat.zero_le _
  | ok m =>
    have := (strs_fit _ _ (out_laid _ _ hr)).1
    rw [tl_length] at this
    exact this

set_option maxHeartbeats 6400000 in
theorem walk (s : ByteArray) (w : World) :
    Calls Try.prog 4 #[.string s] w fun e w' => e = .returned (.bool true) ∧ Below w.heap.size w w' := by
  have RA := Lib.hid LetA.awake_any
  by_cases hg : 8000 < s.size
  · have d1 : decide (8000 < (s.size : Int)) = true := decide_eq_true (by omega)
    have d2 : decide (8000 < s.size) = true := decide_eq_true hg
    clear hg
    go_enter Try.func4, Try.ntmps4
    go_wp2_with fail
    refine (RA.out _).mono ?_
    rintro e w1 ⟨rfl, hb⟩
    go_wp2
    go_ret
    exact ⟨rfl, hb⟩
  have d1 : decide (8000 < (s.size : Int)) = false := decide_eq_false (by omega)
  have d2 : decide (8000 < s.size) = false := decide_eq_false hg
  have hs : s.size ≤ 1000000000 := by omega
  clear hg
  obtain ⟨Cast0, hCast0⟩ : ∃ V, V = okB (fun x => x) (readCast s.data.toList) := ⟨_, rfl⟩
  obtain ⟨ECast, hECast⟩ : ∃ V, V = errV (readCast s.data.toList) := ⟨_, rfl⟩
  have ACast := Lib.hid (fun u => LetA.readCast_any s Cast0 ECast u hCast0 hECast hs)
  have RCast := Lib.hid (fun u => RLet.readCast_any s Cast0 ECast u hCast0 hECast hs)
  obtain ⟨List0, hList0⟩ : ∃ V, V = okL (fun x => x.1) (readList s.data.toList) := ⟨_, rfl⟩
  obtain ⟨List1, hList1⟩ : ∃ V, V = okN (fun x => x.2) (readList s.data.toList) := ⟨_, rfl⟩
  obtain ⟨EList, hEList⟩ : ∃ V, V = errV (readList s.data.toList) := ⟨_, rfl⟩
  have AList := Lib.hid (fun u => LetA.readList_any s List0 List1 EList u hList0 hList1 hEList hs)
  have RList := Lib.hid (fun u => RLet.readList_any s List0 List1 EList u hList0 hList1 hEList hs)
  have hfList : List0.length ≤ 255 := by rw [hList0]; exact list_few _
  obtain ⟨MList, hMList⟩ : ∃ M, M = List0.length := ⟨_, rfl⟩
  rw [← hMList] at AList RList hfList
  have HMList := Lib.hid (And.intro hMList hfList)
  obtain ⟨Pledge0, hPledge0⟩ : ∃ V, V = okB (fun x => x) (readPledge s.data.toList) := ⟨_, rfl⟩
  obtain ⟨EPledge, hEPledge⟩ : ∃ V, V = errV (readPledge s.data.toList) := ⟨_, rfl⟩
  have APledge := Lib.hid (fun u => LetA.readPledge_any s Pledge0 EPledge u hPledge0 hEPledge)
  have RPledge := Lib.hid (fun u => RLet.readPledge_any s Pledge0 EPledge u hPledge0 hEPledge)
  obtain ⟨Share0, hShare0⟩ : ∃ V, V = okB (fun x => x.1) (readShare s.data.toList) := ⟨_, rfl⟩
  obtain ⟨Share1, hShare1⟩ : ∃ V, V = okL (fun x => x.2) (readShare s.data.toList) := ⟨_, rfl⟩
  obtain ⟨EShare, hEShare⟩ : ∃ V, V = errV (readShare s.data.toList) := ⟨_, rfl⟩
  have AShare := Lib.hid (fun u => LetA.readShare_any s Share0 Share1 EShare u hShare0 hShare1 hEShare hs)
  have RShare := Lib.hid (fun u => RLet.readShare_any s Share0 Share1 EShare u hShare0 hShare1 hEShare hs)
  have hfShare : Share1.length ≤ 255 := by rw [hShare1]; exact share_few _
  obtain ⟨MShare, hMShare⟩ : ∃ M, M = Share1.length := ⟨_, rfl⟩
  rw [← hMShare] at AShare RShare hfShare
  have HMShare := Lib.hid (And.intro hMShare hfShare)
  obtain ⟨Cert0, hCert0⟩ : ∃ V, V = okB (fun x => x.1.1) (readCert s.data.toList) := ⟨_, rfl⟩
  obtain ⟨Cert1, hCert1⟩ : ∃ V, V = okL (fun x => x.1.2) (readCert s.data.toList) := ⟨_, rfl⟩
  obtain ⟨Cert2, hCert2⟩ : ∃ V, V = okN (fun x => x.2) (readCert s.data.toList) := ⟨_, rfl⟩
  obtain ⟨ECert, hECert⟩ : ∃ V, V = errV (readCert s.data.toList) := ⟨_, rfl⟩
  have ACert := Lib.hid (fun u => LetA.readCert_any s Cert0 Cert1 Cert2 ECert u hCert0 hCert1 hCert2 hECert hs)
  have RCert := Lib.hid (fun u => RLet.readCert_any s Cert0 Cert1 Cert2 ECert u hCert0 hCert1 hCert2 hECert hs)
  have hfCert : Cert1.length ≤ 255 := by rw [hCert1]; exact cert_few _
  obtain ⟨MCert, hMCert⟩ : ∃ M, M = Cert1.length := ⟨_, rfl⟩
  rw [← hMCert] at ACert RCert hfCert
  have HMCert := Lib.hid (And.intro hMCert hfCert)
  obtain ⟨Out0, hOut0⟩ : ∃ V, V = okL (fun x => x) (readOut s.data.toList) := ⟨_, rfl⟩
  obtain ⟨EOut, hEOut⟩ : ∃ V, V = errV (readOut s.data.toList) := ⟨_, rfl⟩
  have AOut := Lib.hid (fun u => LetA.readOut_any s Out0 EOut u hOut0 hEOut hs)
  have ROut := Lib.hid (fun u => RLet.readOut_any s Out0 EOut u hOut0 hEOut hs)
  have hfOut : Out0.length ≤ 255 := by rw [hOut0]; exact out_few _
  obtain ⟨MOut, hMOut⟩ : ∃ M, M = Out0.length := ⟨_, rfl⟩
  rw [← hMOut] at AOut ROut hfOut
  have HMOut := Lib.hid (And.intro hMOut hfOut)
  have HM := Lib.hid (Hold.Hld.start w)
  clear hCast0 hECast hList0 hList1 hEList hMList hfList hPledge0 hEPledge hShare0 hShare1 hEShare hMShare hfShare hCert0 hCert1 hCert2 hECert hMCert hfCert hOut0 hEOut hMOut hfOut hs
  go_enter Try.func4, Try.ntmps4
  go_upto_region 3 with (fail)
  clear d1 d2
  go_wp2_with fail
  refine (ACast.out _).mono ?_
  rintro e w ⟨rfl, hb⟩
  replace HM := Lib.hid (HM.out.next hb)
  clear hb
  go_upto_region 4 with (fail)
  have hm := HM.out.add 30 [.string Cast0]
  have hb := (Below.refl w.heap.size w).alloc (Nat.le_refl _) (.cells #[.string Cast0] 30)
  clear HM hb
  simp only [List.nil_append] at hm
  obtain ⟨bACast, hbk⟩ : ∃ b, b = w.heap.size := ⟨_, rfl⟩
  rw [← hbk] at hm ⊢
  generalize w.alloc (.cells #[.string Cast0] 30) = w at *
  have HM := Lib.hid hm
  clear hm hbk
  go_wp2_with fail
  refine (RCast.out _).mono ?_
  rintro e w ⟨rfl, hb⟩
  replace HM := Lib.hid (HM.out.next hb)
  clear hb
  go_upto_region 5 with (fail)
  have hm := HM.out.add 30 [.string Cast0]
  have hb := (Below.refl w.heap.size w).alloc (Nat.le_refl _) (.cells #[.string Cast0] 30)
  clear HM hb
  simp only [List.cons_append, List.nil_append] at hm
  obtain ⟨bRCast, hbk⟩ : ∃ b, b = w.heap.size := ⟨_, rfl⟩
  rw [← hbk] at hm ⊢
  generalize w.alloc (.cells #[.string Cast0] 30) = w at *
  have HM := Lib.hid hm
  clear hm hbk
  go_wp2_with fail
  refine (AList.out _).mono ?_
  rintro e w ⟨aAList, cAList, rfl, hi, -, hb⟩
  replace HM := Lib.hid (HM.out.next hb)
  clear hb
  have HIAList := Lib.hid hi
  clear hi
  go_upto_region 6 with (fail)
  have hm := HM.out.add 33 [.slice aAList MList cAList, .int .i64 List1]
  have hb := (Below.refl w.heap.size w).alloc (Nat.le_refl _) (.cells #[.slice aAList MList cAList, .int .i64 List1] 33)
  replace HIAList := Lib.hid (HIAList.out.below hb)
  clear HM hb
  simp only [List.cons_append, List.nil_append] at hm
  obtain ⟨bAList, hbk⟩ : ∃ b, b = w.heap.size := ⟨_, rfl⟩
  rw [← hbk] at hm ⊢
  generalize w.alloc (.cells #[.slice aAList MList cAList, .int .i64 List1] 33) = w at *
  have HM := Lib.hid hm
  clear hm hbk
  go_wp2_with fail
  refine (RList.out _).mono ?_
  rintro e w ⟨aRList, cRList, rfl, hi, -, hb⟩
  replace HM := Lib.hid (HM.out.next hb)
  replace HIAList := Lib.hid (HIAList.out.below hb)
  clear hb
  have HIRList := Lib.hid hi
  clear hi
  go_upto_region 7 with (fail)
  have hm := HM.out.add 33 [.slice aRList MList cRList, .int .i64 List1]
  have hb := (Below.refl w.heap.size w).alloc (Nat.le_refl _) (.cells #[.slice aRList MList cRList, .int .i64 List1] 33)
  replace HIAList := Lib.hid (HIAList.out.below hb)
  replace HIRList := Lib.hid (HIRList.out.below hb)
  clear HM hb
  simp only [List.cons_append, List.nil_append] at hm
  obtain ⟨bRList, hbk⟩ : ∃ b, b = w.heap.size := ⟨_, rfl⟩
  rw [← hbk] at hm ⊢
  generalize w.alloc (.cells #[.slice aRList MList cRList, .int .i64 List1] 33) = w at *
  have HM := Lib.hid hm
  clear hm hbk
  go_wp2_with fail
  refine (APledge.out _).mono ?_
  rintro e w ⟨rfl, hb⟩
  replace HM := Lib.hid (HM.out.next hb)
  replace HIAList := Lib.hid (HIAList.out.below hb)
  replace HIRList := Lib.hid (HIRList.out.below hb)
  clear hb
  go_upto_region 8 with (fail)
  have hm := HM.out.add 36 [.string Pledge0]
  have hb := (Below.refl w.heap.size w).alloc (Nat.le_refl _) (.cells #[.string Pledge0] 36)
  replace HIAList := Lib.hid (HIAList.out.below hb)
  replace HIRList := Lib.hid (HIRList.out.below hb)
  clear HM hb
  simp only [List.cons_append, List.nil_append] at hm
  obtain ⟨bAPledge, hbk⟩ : ∃ b, b = w.heap.size := ⟨_, rfl⟩
  rw [← hbk] at hm ⊢
  generalize w.alloc (.cells #[.string Pledge0] 36) = w at *
  have HM := Lib.hid hm
  clear hm hbk
  go_wp2_with fail
  refine (RPledge.out _).mono ?_
  rintro e w ⟨rfl, hb⟩
  replace HM := Lib.hid (HM.out.next hb)
  replace HIAList := Lib.hid (HIAList.out.below hb)
  replace HIRList := Lib.hid (HIRList.out.below hb)
  clear hb
  go_upto_region 9 with (fail)
  have hm := HM.out.add 36 [.string Pledge0]
  have hb := (Below.refl w.heap.size w).alloc (Nat.le_refl _) (.cells #[.string Pledge0] 36)
  replace HIAList := Lib.hid (HIAList.out.below hb)
  replace HIRList := Lib.hid (HIRList.out.below hb)
  clear HM hb
  simp only [List.cons_append, List.nil_append] at hm
  obtain ⟨bRPledge, hbk⟩ : ∃ b, b = w.heap.size := ⟨_, rfl⟩
  rw [← hbk] at hm ⊢
  generalize w.alloc (.cells #[.string Pledge0] 36) = w at *
  have HM := Lib.hid hm
  clear hm hbk
  go_wp2_with fail
  refine (AShare.out _).mono ?_
  rintro e w ⟨aAShare, cAShare, rfl, hi, -, hb⟩
  replace HM := Lib.hid (HM.out.next hb)
  replace HIAList := Lib.hid (HIAList.out.below hb)
  replace HIRList := Lib.hid (HIRList.out.below hb)
  clear hb
  have HIAShare := Lib.hid hi
  clear hi
  go_upto_region 10 with (fail)
  have hm := HM.out.add 39 [.string Share0, .slice aAShare MShare cAShare]
  have hb := (Below.refl w.heap.size w).alloc (Nat.le_refl _) (.cells #[.string Share0, .slice aAShare MShare cAShare] 39)
  replace HIAList := Lib.hid (HIAList.out.below hb)
  replace HIRList := Lib.hid (HIRList.out.below hb)
  replace HIAShare := Lib.hid (HIAShare.out.below hb)
  clear HM hb
  simp only [List.cons_append, List.nil_append] at hm
  obtain ⟨bAShare, hbk⟩ : ∃ b, b = w.heap.size := ⟨_, rfl⟩
  rw [← hbk] at hm ⊢
  generalize w.alloc (.cells #[.string Share0, .slice aAShare MShare cAShare] 39) = w at *
  have HM := Lib.hid hm
  clear hm hbk
  go_wp2_with fail
  refine (RShare.out _).mono ?_
  rintro e w ⟨aRShare, cRShare, rfl, hi, -, hb⟩
  replace HM := Lib.hid (HM.out.next hb)
  replace HIAList := Lib.hid (HIAList.out.below hb)
  replace HIRList := Lib.hid (HIRList.out.below hb)
  replace HIAShare := Lib.hid (HIAShare.out.below hb)
  clear hb
  have HIRShare := Lib.hid hi
  clear hi
  go_upto_region 11 with (fail)
  have hm := HM.out.add 39 [.string Share0, .slice aRShare MShare cRShare]
  have hb := (Below.refl w.heap.size w).alloc (Nat.le_refl _) (.cells #[.string Share0, .slice aRShare MShare cRShare] 39)
  replace HIAList := Lib.hid (HIAList.out.below hb)
  replace HIRList := Lib.hid (HIRList.out.below hb)
  replace HIAShare := Lib.hid (HIAShare.out.below hb)
  replace HIRShare := Lib.hid (HIRShare.out.below hb)
  clear HM hb
  simp only [List.cons_append, List.nil_append] at hm
  obtain ⟨bRShare, hbk⟩ : ∃ b, b = w.heap.size := ⟨_, rfl⟩
  rw [← hbk] at hm ⊢
  generalize w.alloc (.cells #[.string Share0, .slice aRShare MShare cRShare] 39) = w at *
  have HM := Lib.hid hm
  clear hm hbk
  go_wp2_with fail
  refine (ACert.out _).mono ?_
  rintro e w ⟨aACert, cACert, rfl, hi, -, hb⟩
  replace HM := Lib.hid (HM.out.next hb)
  replace HIAList := Lib.hid (HIAList.out.below hb)
  replace HIRList := Lib.hid (HIRList.out.below hb)
  replace HIAShare := Lib.hid (HIAShare.out.below hb)
  replace HIRShare := Lib.hid (HIRShare.out.below hb)
  clear hb
  have HIACert := Lib.hid hi
  clear hi
  go_upto_region 12 with (fail)
  have hm := HM.out.add 42 [.string Cert0, .slice aACert MCert cACert, .int .i64 Cert2]
  have hb := (Below.refl w.heap.size w).alloc (Nat.le_refl _) (.cells #[.string Cert0, .slice aACert MCert cACert, .int .i64 Cert2] 42)
  replace HIAList := Lib.hid (HIAList.out.below hb)
  replace HIRList := Lib.hid (HIRList.out.below hb)
  replace HIAShare := Lib.hid (HIAShare.out.below hb)
  replace HIRShare := Lib.hid (HIRShare.out.below hb)
  replace HIACert := Lib.hid (HIACert.out.below hb)
  clear HM hb
  simp only [List.cons_append, List.nil_append] at hm
  obtain ⟨bACert, hbk⟩ : ∃ b, b = w.heap.size := ⟨_, rfl⟩
  rw [← hbk] at hm ⊢
  generalize w.alloc (.cells #[.string Cert0, .slice aACert MCert cACert, .int .i64 Cert2] 42) = w at *
  have HM := Lib.hid hm
  clear hm hbk
  go_wp2_with fail
  refine (RCert.out _).mono ?_
  rintro e w ⟨aRCert, cRCert, rfl, hi, -, hb⟩
  replace HM := Lib.hid (HM.out.next hb)
  replace HIAList := Lib.hid (HIAList.out.below hb)
  replace HIRList := Lib.hid (HIRList.out.below hb)
  replace HIAShare := Lib.hid (HIAShare.out.below hb)
  replace HIRShare := Lib.hid (HIRShare.out.below hb)
  replace HIACert := Lib.hid (HIACert.out.below hb)
  clear hb
  have HIRCert := Lib.hid hi
  clear hi
  go_upto_region 13 with (fail)
  have hm := HM.out.add 42 [.string Cert0, .slice aRCert MCert cRCert, .int .i64 Cert2]
  have hb := (Below.refl w.heap.size w).alloc (Nat.le_refl _) (.cells #[.string Cert0, .slice aRCert MCert cRCert, .int .i64 Cert2] 42)
  replace HIAList := Lib.hid (HIAList.out.below hb)
  replace HIRList := Lib.hid (HIRList.out.below hb)
  replace HIAShare := Lib.hid (HIAShare.out.below hb)
  replace HIRShare := Lib.hid (HIRShare.out.below hb)
  replace HIACert := Lib.hid (HIACert.out.below hb)
  replace HIRCert := Lib.hid (HIRCert.out.below hb)
  clear HM hb
  simp only [List.cons_append, List.nil_append] at hm
  obtain ⟨bRCert, hbk⟩ : ∃ b, b = w.heap.size := ⟨_, rfl⟩
  rw [← hbk] at hm ⊢
  generalize w.alloc (.cells #[.string Cert0, .slice aRCert MCert cRCert, .int .i64 Cert2] 42) = w at *
  have HM := Lib.hid hm
  clear hm hbk
  go_wp2_with fail
  refine (AOut.out _).mono ?_
  rintro e w ⟨aAOut, cAOut, rfl, hi, -, hb⟩
  replace HM := Lib.hid (HM.out.next hb)
  replace HIAList := Lib.hid (HIAList.out.below hb)
  replace HIRList := Lib.hid (HIRList.out.below hb)
  replace HIAShare := Lib.hid (HIAShare.out.below hb)
  replace HIRShare := Lib.hid (HIRShare.out.below hb)
  replace HIACert := Lib.hid (HIACert.out.below hb)
  replace HIRCert := Lib.hid (HIRCert.out.below hb)
  clear hb
  have HIAOut := Lib.hid hi
  clear hi
  go_upto_region 14 with (fail)
  have hm := HM.out.add 45 [.slice aAOut MOut cAOut]
  have hb := (Below.refl w.heap.size w).alloc (Nat.le_refl _) (.cells #[.slice aAOut MOut cAOut] 45)
  replace HIAList := Lib.hid (HIAList.out.below hb)
  replace HIRList := Lib.hid (HIRList.out.below hb)
  replace HIAShare := Lib.hid (HIAShare.out.below hb)
  replace HIRShare := Lib.hid (HIRShare.out.below hb)
  replace HIACert := Lib.hid (HIACert.out.below hb)
  replace HIRCert := Lib.hid (HIRCert.out.below hb)
  replace HIAOut := Lib.hid (HIAOut.out.below hb)
  clear HM hb
  simp only [List.cons_append, List.nil_append] at hm
  obtain ⟨bAOut, hbk⟩ : ∃ b, b = w.heap.size := ⟨_, rfl⟩
  rw [← hbk] at hm ⊢
  generalize w.alloc (.cells #[.slice aAOut MOut cAOut] 45) = w at *
  have HM := Lib.hid hm
  clear hm hbk
  go_wp2_with fail
  refine (ROut.out _).mono ?_
  rintro e w ⟨aROut, cROut, rfl, hi, -, hb⟩
  replace HM := Lib.hid (HM.out.next hb)
  replace HIAList := Lib.hid (HIAList.out.below hb)
  replace HIRList := Lib.hid (HIRList.out.below hb)
  replace HIAShare := Lib.hid (HIAShare.out.below hb)
  replace HIRShare := Lib.hid (HIRShare.out.below hb)
  replace HIACert := Lib.hid (HIACert.out.below hb)
  replace HIRCert := Lib.hid (HIRCert.out.below hb)
  replace HIAOut := Lib.hid (HIAOut.out.below hb)
  clear hb
  have HIROut := Lib.hid hi
  clear hi
  have hm := HM.out.add 45 [.slice aROut MOut cROut]
  have hb := (Below.refl w.heap.size w).alloc (Nat.le_refl _) (.cells #[.slice aROut MOut cROut] 45)
  replace HIAList := Lib.hid (HIAList.out.below hb)
  replace HIRList := Lib.hid (HIRList.out.below hb)
  replace HIAShare := Lib.hid (HIAShare.out.below hb)
  replace HIRShare := Lib.hid (HIRShare.out.below hb)
  replace HIACert := Lib.hid (HIACert.out.below hb)
  replace HIRCert := Lib.hid (HIRCert.out.below hb)
  replace HIAOut := Lib.hid (HIAOut.out.below hb)
  replace HIROut := Lib.hid (HIROut.out.below hb)
  clear HM hb
  simp only [List.cons_append, List.nil_append] at hm
  obtain ⟨bROut, hbk⟩ : ∃ b, b = w.heap.size := ⟨_, rfl⟩
  have HALL := Lib.hid (show ∀ u, Below (w.alloc (.cells #[.slice aROut MOut cROut] 45)).heap.size (w.alloc (.cells #[.slice aROut MOut cROut] 45)) u → u.cell? ⟨bACast, 0, none⟩ = some (.string Cast0) ∧ u.cell? ⟨bRCast, 0, none⟩ = some (.string Cast0) ∧ u.cell? ⟨bAList, 0, none⟩ = some (.slice aAList MList cAList) ∧ u.cell? ⟨bAList, 1, none⟩ = some (.int .i64 List1) ∧ u.cell? ⟨bRList, 0, none⟩ = some (.slice aRList MList cRList) ∧ u.cell? ⟨bRList, 1, none⟩ = some (.int .i64 List1) ∧ u.cell? ⟨bAPledge, 0, none⟩ = some (.string Pledge0) ∧ u.cell? ⟨bRPledge, 0, none⟩ = some (.string Pledge0) ∧ u.cell? ⟨bAShare, 0, none⟩ = some (.string Share0) ∧ u.cell? ⟨bAShare, 1, none⟩ = some (.slice aAShare MShare cAShare) ∧ u.cell? ⟨bRShare, 0, none⟩ = some (.string Share0) ∧ u.cell? ⟨bRShare, 1, none⟩ = some (.slice aRShare MShare cRShare) ∧ u.cell? ⟨bACert, 0, none⟩ = some (.string Cert0) ∧ u.cell? ⟨bACert, 1, none⟩ = some (.slice aACert MCert cACert) ∧ u.cell? ⟨bACert, 2, none⟩ = some (.int .i64 Cert2) ∧ u.cell? ⟨bRCert, 0, none⟩ = some (.string Cert0) ∧ u.cell? ⟨bRCert, 1, none⟩ = some (.slice aRCert MCert cRCert) ∧ u.cell? ⟨bRCert, 2, none⟩ = some (.int .i64 Cert2) ∧ u.cell? ⟨bAOut, 0, none⟩ = some (.slice aAOut MOut cAOut) ∧ u.cell? ⟨w.heap.size, 0, none⟩ = some (.slice aROut MOut cROut) from fun u hu => ⟨((hm.next hu).at 0 rfl).row.cell (i := 0) rfl, ((hm.next hu).at 1 rfl).row.cell (i := 0) rfl, ((hm.next hu).at 2 rfl).row.cell (i := 0) rfl, ((hm.next hu).at 2 rfl).row.cell (i := 1) rfl, ((hm.next hu).at 3 rfl).row.cell (i := 0) rfl, ((hm.next hu).at 3 rfl).row.cell (i := 1) rfl, ((hm.next hu).at 4 rfl).row.cell (i := 0) rfl, ((hm.next hu).at 5 rfl).row.cell (i := 0) rfl, ((hm.next hu).at 6 rfl).row.cell (i := 0) rfl, ((hm.next hu).at 6 rfl).row.cell (i := 1) rfl, ((hm.next hu).at 7 rfl).row.cell (i := 0) rfl, ((hm.next hu).at 7 rfl).row.cell (i := 1) rfl, ((hm.next hu).at 8 rfl).row.cell (i := 0) rfl, ((hm.next hu).at 8 rfl).row.cell (i := 1) rfl, ((hm.next hu).at 8 rfl).row.cell (i := 2) rfl, ((hm.next hu).at 9 rfl).row.cell (i := 0) rfl, ((hm.next hu).at 9 rfl).row.cell (i := 1) rfl, ((hm.next hu).at 9 rfl).row.cell (i := 2) rfl, ((hm.next hu).at 10 rfl).row.cell (i := 0) rfl, ((hm.next hu).at 11 rfl).row.cell (i := 0) rfl⟩)
  have HW := Lib.hid hm.below
  clear hm hbk
  obtain ⟨c0, c1, c2, c3, c4, c5, c6, c7, c8, c9, c10, c11, c12, c13, c14, c15, c16, c17, c18, c19⟩ := HALL.out _ (Below.refl _ _)
  go_wp2_with fail
  refine (LetH.ints_any (zl List0) MList MList aAList aRList cAList cRList _ (HMList.out.1.trans (zl_length _).symm) (HMList.out.1.trans (zl_length _).symm) (by have := HMList.out.2; omega) (HIAList.out) (HIRList.out)).mono ?_
  rintro e v1 ⟨rfl, hb⟩
  have HB := Lib.hid hb
  clear hb c0 c1 c2 c3 c4 c5 c6 c7 c8 c9 c10 c11 c12 c13 c14 c15 c16 c17 c18 c19
  obtain ⟨c0, c1, c2, c3, c4, c5, c6, c7, c8, c9, c10, c11, c12, c13, c14, c15, c16, c17, c18, c19⟩ := HALL.out _ HB.out
  go_wp2_with fail
  refine (LetH.texts_any (tl Share1) MShare MShare aAShare aRShare cAShare cRShare _ (HMShare.out.1.trans (tl_length _).symm) (HMShare.out.1.trans (tl_length _).symm) (by have := HMShare.out.2; omega) (HIAShare.out.below HB.out) (HIRShare.out.below HB.out)).mono ?_
  rintro e v2 ⟨rfl, hb⟩
  replace HB := Lib.hid (HB.out.trans (hb.mono HB.out.size))
  clear hb c0 c1 c2 c3 c4 c5 c6 c7 c8 c9 c10 c11 c12 c13 c14 c15 c16 c17 c18 c19
  obtain ⟨c0, c1, c2, c3, c4, c5, c6, c7, c8, c9, c10, c11, c12, c13, c14, c15, c16, c17, c18, c19⟩ := HALL.out _ HB.out
  go_wp2_with fail
  refine (LetH.ints_any (zl Cert1) MCert MCert aACert aRCert cACert cRCert _ (HMCert.out.1.trans (zl_length _).symm) (HMCert.out.1.trans (zl_length _).symm) (by have := HMCert.out.2; omega) (HIACert.out.below HB.out) (HIRCert.out.below HB.out)).mono ?_
  rintro e v3 ⟨rfl, hb⟩
  replace HB := Lib.hid (HB.out.trans (hb.mono HB.out.size))
  clear hb c0 c1 c2 c3 c4 c5 c6 c7 c8 c9 c10 c11 c12 c13 c14 c15 c16 c17 c18 c19
  obtain ⟨c0, c1, c2, c3, c4, c5, c6, c7, c8, c9, c10, c11, c12, c13, c14, c15, c16, c17, c18, c19⟩ := HALL.out _ HB.out
  go_wp2_with fail
  refine (LetH.texts_any (tl Out0) MOut MOut aAOut aROut cAOut cROut _ (HMOut.out.1.trans (tl_length _).symm) (HMOut.out.1.trans (tl_length _).symm) (by have := HMOut.out.2; omega) (HIAOut.out.below HB.out) (HIROut.out.below HB.out)).mono ?_
  rintro e v4 ⟨rfl, hb⟩
  replace HB := Lib.hid (HB.out.trans (hb.mono HB.out.size))
  clear hb c0 c1 c2 c3 c4 c5 c6 c7 c8 c9 c10 c11 c12 c13 c14 c15 c16 c17 c18 c19
  obtain ⟨c0, c1, c2, c3, c4, c5, c6, c7, c8, c9, c10, c11, c12, c13, c14, c15, c16, c17, c18, c19⟩ := HALL.out _ HB.out
  go_wp2_with fail
  refine (RA.out _).mono ?_
  rintro e v5 ⟨rfl, hb⟩
  replace HB := Lib.hid (HB.out.trans (hb.mono HB.out.size))
  clear hb c0 c1 c2 c3 c4 c5 c6 c7 c8 c9 c10 c11 c12 c13 c14 c15 c16 c17 c18 c19
  go_wp2
  go_ret
  exact ⟨by simp, HW.out.trans (HB.out.mono HW.out.size)⟩

theorem own : ownKnob Try.prog.godebug = none := by kernel_rfl
theorem laidOut : laidOutB Try.prog = true := by kernel_rfl

theorem lifted (os : Os) (started : os.Started) (H : Type) (enc : TypeId × Value → H) :
    ReturnsInHanded {} Try.checked os 4 .any (Rows.letterReadsSpec.pre6 enc Try.prog Try.f4 Rows.letterReadsRow.domain false) (Rows.letterReadsSpec.post enc Try.prog Try.f4 false true false false) := by
  refine returnsInHanded_of_change (C := Try.checked) own started (by kernel_rfl) Try.func4
    (ChangeSpec.witness6 (enc := enc) (C := Try.checked) false ⟨#[], #[.string ByteArray.empty], []⟩ 8 (by kernel_rfl) (by kernel_rfl) (by kernel_rfl) (by kernel_rfl)) ?_
  intro W base args ds gs before hval0 hW hcnd _
  have hval : ∀ (j : Nat) t v, Try.f4.params[j]? = some t → args[j]? = some v → Value.okWide Try.prog W .any base t v := hval0
  have hW' := hW
  obtain ⟨p, q, hA0, hV, rfl, hfz, hnd⟩ := hW
  have hA : DataW.TrodAll enc Try.prog W 0 (fun _ => true) true Try.f4.params.toList args.toList ds p := hA0
  rw [Try.params4] at hA hval
  obtain ⟨v0, vs0, d0, ds0, p0, q0, hargs, rfl, rfl, h0, r0⟩ := trodAll_cons hA
  obtain ⟨rfl, rfl, rfl⟩ := trodAll_nil r0
  obtain rfl : args = #[v0] := by cases args; simp_all
  obtain ⟨rfl, rfl⟩ := trodVars_none hV
  obtain ⟨a0, rfl, rfl, rfl, w0⟩ := open_string Try.underlying9 (hval 0 9 v0 rfl rfl) h0
  clear hA0 hval0
  refine (walk a0 W ).mono fun e W' ⟨he, bel⟩ => ?_
  subst he
  exact ⟨_, rfl, _, _, _, [], _, [], hW', trodAll_mk1 (shut_bool Try.underlying4 _), (trodAll_cons_mk (shut_string Try.underlying9 w0) trodAll_mk0), rfl, bel.frame _, fun h => by cases h⟩

theorem over : Rows.letterReadsRow.holds Try.pinned (OpenSpec.ofChange Rows.letterReadsSpec) :=
  OpenClaim.holds_of_wide 4 Try.f4 rfl rfl rfl rfl rfl rfl rfl ⟨rfl, rfl, rfl, rfl, rfl⟩ rfl rfl rfl rfl rfl (by kernel_rfl) Try.func4 (by kernel_rfl)
    (of_decide_eq_true (by kernel_rfl)) (by unfold Func.isWrapper; first | (rw [if_pos (by decide +kernel)]; kernel_rfl) | (rw [if_neg (by decide +kernel)]; exact ⟨rfl, rfl⟩))
    (fun os started H enc _ => lifted os started H enc)

theorem proved : Rows.LetterReadsSaid := over
#print axioms proved
end Go.Proofs.Ytlinpbmglcjkkaa.LawLRd
