/-
  ReadPledge and Read of package letter: what the plain mathematics of the text Let says; all memory that was there is left as it was. Conditions: the text has no more than 10^9 bytes.
-/
import Derived.Test.YtlinpbmglcjkkaaDoorLetB
import Derived.Test.YtlinpbmglcjkkaaDoorLetD
import Derived.Test.YtlinpbmglcjkkaaDoorRLetC
namespace Go.Proofs.YtlinpbmglcjkkaaDoor.LetA
open Go.RowKit Mur Prt Lanes Cod Let
open RLet (okB okL okN)
set_option maxRecDepth 100000

def zPledge : List Value := [.string ⟨#[]⟩]
theorem zPledge_len : zPledge.length = 1 := rfl
theorem zPledge_one : Hold.Single zPledge := by simp [Hold.Single, zPledge, Value.oneCell']
theorem zero_zPledge : (Tryd.prog.info? 31).map (fun i => (i.zero, i.size)) = some (some (.agg zPledge.toArray), zPledge.length) := by kernel_rfl
theorem row_zPledge : Hold.TyRow Tryd.prog 31 1 := ⟨_, Tryd.underlying31, rfl, by kernel_rfl⟩

set_option maxHeartbeats 1600000 in
theorem readPledge_any (s : ByteArray) (V : ByteArray) (E : Int) (w : World) (hV : V = okB (fun x => x) (readPledge s.data.toList)) (hE : E = errV (readPledge s.data.toList)) :
    Calls Tryd.prog 16 #[.string s] w fun e w' => e = .returned (.tuple #[.agg #[.string V], .int .i64 E]) ∧ Below w.heap.size w w' := by
  have hsl : s.data.toList.length = s.size := rfl
  have HM := Lib.hid (Hold.Hld.start w)
  by_cases h : s.size = 32
  · rw [readPledge, if_pos (by rw [hsl]; exact h)] at hV hE
    obtain rfl : V = s := by rw [hV]; cases s; rfl
    obtain rfl : E = 0 := hE
    have hd : ((V.size : Int) != 32) = false := by simp; omega
    clear hV h hsl
    go_enter Tryd.func16, Tryd.ntmps16
    go_wp2_with ((first
      | (with_reducible refine Hold.alloc HM.out rfl rfl zPledge zero_zPledge ?_; clear HM; intro b0 w HM; simp only [List.nil_append] at HM; replace HM := Lib.hid HM)
      | (refine Hold.store HM.out 0 (v' := [.string V]) rfl rfl rfl rfl rfl (by simp [zPledge_len]) (Hold.lay_all rfl) (by simp [Hold.Single, Value.oneCell']) row_zPledge ?_; clear HM; intro w HM; simp only [List.set_cons_zero] at HM; replace HM := Lib.hid HM)))

    refine bodyPost_ret (Hold.resultsCT HM.out 0 rfl _ rfl rfl rfl row_zPledge) rfl ?_
    exact ⟨rfl, HM.out.below⟩
  · rw [readPledge, if_neg (by rw [hsl]; exact h)] at hV hE
    obtain rfl : V = ⟨#[]⟩ := hV
    obtain rfl : E = 3 := hE
    have hd : ((s.size : Int) != 32) = true := by simp; omega
    clear h hsl
    go_enter Tryd.func16, Tryd.ntmps16
    go_wp2_with ((first
      | (with_reducible refine Hold.alloc HM.out rfl rfl zPledge zero_zPledge ?_; clear HM; intro b0 w HM; simp only [List.nil_append] at HM; replace HM := Lib.hid HM)
      | (with_reducible refine Hold.build (t := 31) (parts := #[]) (cs := zPledge) rfl rfl ?_ ?_; focus (kernel_rfl))
      | (with_reducible refine Hold.store HM.out 0 (v' := zPledge) rfl rfl rfl rfl rfl (by rw [Nat.zero_add]; exact Nat.le_refl _) (Hold.lay_all rfl) (zPledge_one) (by rw [zPledge_len]; exact row_zPledge) ?_; clear HM; intro w HM; simp only [List.set_cons_zero] at HM; replace HM := Lib.hid HM)))

    refine bodyPost_ret (Hold.resultsCT HM.out 0 rfl _ rfl rfl rfl (by rw [zPledge_len]; exact row_zPledge)) rfl ?_
    exact ⟨rfl, HM.out.below⟩


set_option maxHeartbeats 1600000 in
theorem readCast_ok (s : ByteArray) (V0 : ByteArray) (E : Int) (w : World) (h0 : V0 = okB (fun x => x) (readCast s.data.toList)) (hE : E = errV (readCast s.data.toList)) (h0E : E = 0) (hs : s.size ≤ 1000000000) :
    Calls Tryd.prog 11 #[.int .i64 1, .string s] w fun e w' => e = .returned (.tuple #[.iface 27 (.agg #[.string V0]), .int .i64 0]) ∧ Below w.heap.size w w' := by
  subst h0E
  have R1 := Lib.hid (fun u => readCast_any s V0 0 u h0 hE hs)
  have hne : ((0 : Int) != 0) = false := by simp
  clear h0 hE
  go_enter Tryd.func11, Tryd.ntmps11
  go_wp2_with fail
  refine (R1.out _).mono ?_
  rintro e w1 ⟨rfl, hb⟩
  go_wp2
  go_ret2
  exact ⟨rfl, hb⟩

set_option maxHeartbeats 1600000 in
theorem readCast_no (s : ByteArray) (E : Int) (w : World) (hE : E = errV (readCast s.data.toList)) (h0E : E ≠ 0) (hs : s.size ≤ 1000000000) :
    Calls Tryd.prog 11 #[.int .i64 1, .string s] w fun e w' => e = .returned (.tuple #[.nilIface, .int .i64 E]) ∧ Below w.heap.size w w' := by
  have R1 := Lib.hid (fun u => readCast_any s _ E u rfl hE hs)
  have hne : (E != 0) = true := by simp [h0E]
  clear hE h0E
  generalize okB (fun x => x) (readCast s.data.toList) = V0 at R1
  go_enter Tryd.func11, Tryd.ntmps11
  go_wp2_with fail
  refine (R1.out _).mono ?_
  rintro e w1 ⟨rfl, hb⟩
  go_wp2
  go_ret2
  exact ⟨rfl, hb⟩

set_option maxHeartbeats 1600000 in
theorem readList_ok (s : ByteArray) (V0 : List Nat) (V1 : Int) (E : Int) (w : World) (h0 : V0 = okL (fun x => x.1) (readList s.data.toList)) (h1 : V1 = okN (fun x => x.2) (readList s.data.toList)) (hE : E = errV (readList s.data.toList)) (h0E : E = 0) (hs : s.size ≤ 1000000000) :
    Calls Tryd.prog 11 #[.int .i64 2, .string s] w fun e w' => ∃ ao c, e = .returned (.tuple #[.iface 29 (.agg #[.slice ao V0.length c, .int .i64 V1]), .int .i64 0]) ∧ IntsR w' ao (zl V0) ∧ (∀ q, ao = some q → w.heap.size ≤ q.block) ∧ Below w.heap.size w w' := by
  subst h0E
  have R1 := Lib.hid (fun u => readList_any s V0 V1 0 u h0 h1 hE hs)
  obtain ⟨M, hM⟩ : ∃ M, M = V0.length := ⟨_, rfl⟩
  rw [← hM] at R1 ⊢
  clear hM
  have hne : ((0 : Int) != 0) = false := by simp
  clear h0 h1 hE
  go_enter Tryd.func11, Tryd.ntmps11
  go_wp2_with fail
  refine (R1.out _).mono ?_
  rintro e w1 ⟨ao, c, rfl, hi, hf, hb⟩
  have HI := Lib.hid hi
  have HF := Lib.hid hf
  clear hi hf
  go_wp2
  go_ret2
  exact ⟨ao, c, rfl, HI.out, HF.out, hb⟩

set_option maxHeartbeats 1600000 in
theorem readList_no (s : ByteArray) (E : Int) (w : World) (hE : E = errV (readList s.data.toList)) (h0E : E ≠ 0) (hs : s.size ≤ 1000000000) :
    Calls Tryd.prog 11 #[.int .i64 2, .string s] w fun e w' => e = .returned (.tuple #[.nilIface, .int .i64 E]) ∧ Below w.heap.size w w' := by
  have R1 := Lib.hid (fun u => readList_any s _ _ E u rfl rfl hE hs)
  have hne : (E != 0) = true := by simp [h0E]
  clear hE h0E
  generalize okL (fun x => x.1) (readList s.data.toList) = V0 at R1
  generalize okN (fun x => x.2) (readList s.data.toList) = V1 at R1
  obtain ⟨M, hM⟩ : ∃ M, M = V0.length := ⟨_, rfl⟩
  rw [← hM] at R1
  clear hM
  go_enter Tryd.func11, Tryd.ntmps11
  go_wp2_with fail
  refine (R1.out _).mono ?_
  rintro e w1 ⟨ao, c, rfl, -, -, hb⟩
  go_wp2
  go_ret2
  exact ⟨rfl, hb⟩

set_option maxHeartbeats 1600000 in
theorem readPledge_ok (s : ByteArray) (V0 : ByteArray) (E : Int) (w : World) (h0 : V0 = okB (fun x => x) (readPledge s.data.toList)) (hE : E = errV (readPledge s.data.toList)) (h0E : E = 0) (_hs : s.size ≤ 1000000000) :
    Calls Tryd.prog 11 #[.int .i64 3, .string s] w fun e w' => e = .returned (.tuple #[.iface 31 (.agg #[.string V0]), .int .i64 0]) ∧ Below w.heap.size w w' := by
  subst h0E
  have R1 := Lib.hid (fun u => readPledge_any s V0 0 u h0 hE)
  have hne : ((0 : Int) != 0) = false := by simp
  clear h0 hE
  go_enter Tryd.func11, Tryd.ntmps11
  go_wp2_with fail
  refine (R1.out _).mono ?_
  rintro e w1 ⟨rfl, hb⟩
  go_wp2
  go_ret2
  exact ⟨rfl, hb⟩

set_option maxHeartbeats 1600000 in
theorem readPledge_no (s : ByteArray) (E : Int) (w : World) (hE : E = errV (readPledge s.data.toList)) (h0E : E ≠ 0) (_hs : s.size ≤ 1000000000) :
    Calls Tryd.prog 11 #[.int .i64 3, .string s] w fun e w' => e = .returned (.tuple #[.nilIface, .int .i64 E]) ∧ Below w.heap.size w w' := by
  have R1 := Lib.hid (fun u => readPledge_any s _ E u rfl hE)
  have hne : (E != 0) = true := by simp [h0E]
  clear hE h0E
  generalize okB (fun x => x) (readPledge s.data.toList) = V0 at R1
  go_enter Tryd.func11, Tryd.ntmps11
  go_wp2_with fail
  refine (R1.out _).mono ?_
  rintro e w1 ⟨rfl, hb⟩
  go_wp2
  go_ret2
  exact ⟨rfl, hb⟩

set_option maxHeartbeats 1600000 in
theorem readShare_ok (s : ByteArray) (V0 : ByteArray) (V1 : List (List UInt8)) (E : Int) (w : World) (h0 : V0 = okB (fun x => x.1) (readShare s.data.toList)) (h1 : V1 = okL (fun x => x.2) (readShare s.data.toList)) (hE : E = errV (readShare s.data.toList)) (h0E : E = 0) (hs : s.size ≤ 1000000000) :
    Calls Tryd.prog 11 #[.int .i64 4, .string s] w fun e w' => ∃ ao c, e = .returned (.tuple #[.iface 33 (.agg #[.string V0, .slice ao V1.length c]), .int .i64 0]) ∧ StrsR w' ao (tl V1) ∧ (∀ q, ao = some q → w.heap.size ≤ q.block) ∧ Below w.heap.size w w' := by
  subst h0E
  have R1 := Lib.hid (fun u => readShare_any s V0 V1 0 u h0 h1 hE hs)
  obtain ⟨M, hM⟩ : ∃ M, M = V1.length := ⟨_, rfl⟩
  rw [← hM] at R1 ⊢
  clear hM
  have hne : ((0 : Int) != 0) = false := by simp
  clear h0 h1 hE
  go_enter Tryd.func11, Tryd.ntmps11
  go_wp2_with fail
  refine (R1.out _).mono ?_
  rintro e w1 ⟨ao, c, rfl, hi, hf, hb⟩
  have HI := Lib.hid hi
  have HF := Lib.hid hf
  clear hi hf
  go_wp2
  go_ret2
  exact ⟨ao, c, rfl, HI.out, HF.out, hb⟩

set_option maxHeartbeats 1600000 in
theorem readShare_no (s : ByteArray) (E : Int) (w : World) (hE : E = errV (readShare s.data.toList)) (h0E : E ≠ 0) (hs : s.size ≤ 1000000000) :
    Calls Tryd.prog 11 #[.int .i64 4, .string s] w fun e w' => e = .returned (.tuple #[.nilIface, .int .i64 E]) ∧ Below w.heap.size w w' := by
  have R1 := Lib.hid (fun u => readShare_any s _ _ E u rfl rfl hE hs)
  have hne : (E != 0) = true := by simp [h0E]
  clear hE h0E
  generalize okB (fun x => x.1) (readShare s.data.toList) = V0 at R1
  generalize okL (fun x => x.2) (readShare s.data.toList) = V1 at R1
  obtain ⟨M, hM⟩ : ∃ M, M = V1.length := ⟨_, rfl⟩
  rw [← hM] at R1
  clear hM
  go_enter Tryd.func11, Tryd.ntmps11
  go_wp2_with fail
  refine (R1.out _).mono ?_
  rintro e w1 ⟨ao, c, rfl, -, -, hb⟩
  go_wp2
  go_ret2
  exact ⟨rfl, hb⟩

set_option maxHeartbeats 1600000 in
theorem readCert_ok (s : ByteArray) (V0 : ByteArray) (V1 : List Nat) (V2 : Int) (E : Int) (w : World) (h0 : V0 = okB (fun x => x.1.1) (readCert s.data.toList)) (h1 : V1 = okL (fun x => x.1.2) (readCert s.data.toList)) (h2 : V2 = okN (fun x => x.2) (readCert s.data.toList)) (hE : E = errV (readCert s.data.toList)) (h0E : E = 0) (hs : s.size ≤ 1000000000) :
    Calls Tryd.prog 11 #[.int .i64 5, .string s] w fun e w' => ∃ ao c, e = .returned (.tuple #[.iface 35 (.agg #[.string V0, .slice ao V1.length c, .int .i64 V2]), .int .i64 0]) ∧ IntsR w' ao (zl V1) ∧ (∀ q, ao = some q → w.heap.size ≤ q.block) ∧ Below w.heap.size w w' := by
  subst h0E
  have R1 := Lib.hid (fun u => readCert_any s V0 V1 V2 0 u h0 h1 h2 hE hs)
  obtain ⟨M, hM⟩ : ∃ M, M = V1.length := ⟨_, rfl⟩
  rw [← hM] at R1 ⊢
  clear hM
  have hne : ((0 : Int) != 0) = false := by simp
  clear h0 h1 h2 hE
  go_enter Tryd.func11, Tryd.ntmps11
  go_wp2_with fail
  refine (R1.out _).mono ?_
  rintro e w1 ⟨ao, c, rfl, hi, hf, hb⟩
  have HI := Lib.hid hi
  have HF := Lib.hid hf
  clear hi hf
  go_wp2
  go_ret2
  exact ⟨ao, c, rfl, HI.out, HF.out, hb⟩

set_option maxHeartbeats 1600000 in
theorem readCert_no (s : ByteArray) (E : Int) (w : World) (hE : E = errV (readCert s.data.toList)) (h0E : E ≠ 0) (hs : s.size ≤ 1000000000) :
    Calls Tryd.prog 11 #[.int .i64 5, .string s] w fun e w' => e = .returned (.tuple #[.nilIface, .int .i64 E]) ∧ Below w.heap.size w w' := by
  have R1 := Lib.hid (fun u => readCert_any s _ _ _ E u rfl rfl rfl hE hs)
  have hne : (E != 0) = true := by simp [h0E]
  clear hE h0E
  generalize okB (fun x => x.1.1) (readCert s.data.toList) = V0 at R1
  generalize okL (fun x => x.1.2) (readCert s.data.toList) = V1 at R1
  generalize okN (fun x => x.2) (readCert s.data.toList) = V2 at R1
  obtain ⟨M, hM⟩ : ∃ M, M = V1.length := ⟨_, rfl⟩
  rw [← hM] at R1
  clear hM
  go_enter Tryd.func11, Tryd.ntmps11
  go_wp2_with fail
  refine (R1.out _).mono ?_
  rintro e w1 ⟨ao, c, rfl, -, -, hb⟩
  go_wp2
  go_ret2
  exact ⟨rfl, hb⟩

set_option maxHeartbeats 1600000 in
theorem readOut_ok (s : ByteArray) (V0 : List (List UInt8)) (E : Int) (w : World) (h0 : V0 = okL (fun x => x) (readOut s.data.toList)) (hE : E = errV (readOut s.data.toList)) (h0E : E = 0) (hs : s.size ≤ 1000000000) :
    Calls Tryd.prog 11 #[.int .i64 6, .string s] w fun e w' => ∃ ao c, e = .returned (.tuple #[.iface 37 (.agg #[.slice ao V0.length c]), .int .i64 0]) ∧ StrsR w' ao (tl V0) ∧ (∀ q, ao = some q → w.heap.size ≤ q.block) ∧ Below w.heap.size w w' := by
  subst h0E
  have R1 := Lib.hid (fun u => readOut_any s V0 0 u h0 hE hs)
  obtain ⟨M, hM⟩ : ∃ M, M = V0.length := ⟨_, rfl⟩
  rw [← hM] at R1 ⊢
  clear hM
  have hne : ((0 : Int) != 0) = false := by simp
  clear h0 hE
  go_enter Tryd.func11, Tryd.ntmps11
  go_wp2_with fail
  refine (R1.out _).mono ?_
  rintro e w1 ⟨ao, c, rfl, hi, hf, hb⟩
  have HI := Lib.hid hi
  have HF := Lib.hid hf
  clear hi hf
  go_wp2
  go_ret2
  exact ⟨ao, c, rfl, HI.out, HF.out, hb⟩

set_option maxHeartbeats 1600000 in
theorem readOut_no (s : ByteArray) (E : Int) (w : World) (hE : E = errV (readOut s.data.toList)) (h0E : E ≠ 0) (hs : s.size ≤ 1000000000) :
    Calls Tryd.prog 11 #[.int .i64 6, .string s] w fun e w' => e = .returned (.tuple #[.nilIface, .int .i64 E]) ∧ Below w.heap.size w w' := by
  have R1 := Lib.hid (fun u => readOut_any s _ E u rfl hE hs)
  have hne : (E != 0) = true := by simp [h0E]
  clear hE h0E
  generalize okL (fun x => x) (readOut s.data.toList) = V0 at R1
  obtain ⟨M, hM⟩ : ∃ M, M = V0.length := ⟨_, rfl⟩
  rw [← hM] at R1
  clear hM
  go_enter Tryd.func11, Tryd.ntmps11
  go_wp2_with fail
  refine (R1.out _).mono ?_
  rintro e w1 ⟨ao, c, rfl, -, -, hb⟩
  go_wp2
  go_ret2
  exact ⟨rfl, hb⟩

set_option maxHeartbeats 1600000 in
theorem read_other (k : Int) (s : ByteArray) (w : World) (hk : k < 1 ∨ 6 < k) : Calls Tryd.prog 11 #[.int .i64 k, .string s] w fun e w' => e = .returned (.tuple #[.nilIface, .int .i64 1]) ∧ Below w.heap.size w w' := by
  have d1 : (k == 1) = false := by simp; omega
  have d2 : (k == 2) = false := by simp; omega
  have d3 : (k == 3) = false := by simp; omega
  have d4 : (k == 4) = false := by simp; omega
  have d5 : (k == 5) = false := by simp; omega
  have d6 : (k == 6) = false := by simp; omega
  have hne : ((1 : Int) != 0) = true := by simp
  clear hk
  go_enter Tryd.func11, Tryd.ntmps11
  go_wp2
  go_ret2
  exact ⟨rfl, Below.refl _ _⟩
end Go.Proofs.YtlinpbmglcjkkaaDoor.LetA
