/-
  The document's own answers for what bytes say (ReadCast, ReadList, ReadPledge, ReadShare, ReadCert, ReadOut, ended) of layer 14 are what the plain mathematics of the text Let says, and leave all memory that was there as it was; lists that are answered lie in memory that was made. Conditions: the text has no more than 10^9 bytes.
-/
import Derived.Test.YtlinpbmglcjkkaaRLetA
namespace Go.Proofs.Ytlinpbmglcjkkaa.RLet
open Go.RowKit Mur Prt Lanes Cod Let
set_option maxRecDepth 100000

theorem ended_any (s : ByteArray) (q e E : Int) (w : World) (hE : E = if e = 0 ∧ q ≠ (s.size : Int) then 3 else e) :
    Calls Try.prog 54 #[.string s, .int .i64 q, .int .i64 e] w fun v w' => v = .returned (.int .i64 E) ∧ w = w' := by
  by_cases h : e = 0
  · subst h
    by_cases hq : q = (s.size : Int)
    · rw [if_neg (fun k => k.2 hq)] at hE
      subst hE
      have hd : (q != (s.size : Int)) = false := by simp [hq]
      clear hq
      go_enter Try.func54, Try.ntmps54
      go_wp2
      go_ret
      exact ⟨rfl, rfl⟩
    · rw [if_pos ⟨rfl, hq⟩] at hE
      subst hE
      have hd : (q != (s.size : Int)) = true := by simp [hq]
      clear hq
      go_enter Try.func54, Try.ntmps54
      go_wp2
      go_ret
      exact ⟨rfl, rfl⟩
  · rw [if_neg (fun k => h k.1)] at hE
    subst hE
    have hd : (E == 0) = false := by simp [h]
    clear h
    go_enter Try.func54, Try.ntmps54
    go_wp2
    go_ret
    exact ⟨rfl, rfl⟩

/-- What is answered of a reading, part by part. -/
def okB {α : Type} (f : α → List UInt8) (r : Except Nat α) : ByteArray := match r with
  | .ok x => tx (f x)
  | .error _ => ⟨#[]⟩
def okL {α β : Type} (f : α → List β) (r : Except Nat α) : List β := match r with
  | .ok x => f x
  | .error _ => []
def okN {α : Type} (f : α → Nat) (r : Except Nat α) : Int := match r with
  | .ok x => (f x : Int)
  | .error _ => 0
def zCast : List Value := [.string ⟨#[]⟩]
theorem zCast_len : zCast.length = 1 := rfl
theorem zCast_one : Hold.Single zCast := by simp [Hold.Single, zCast, Value.oneCell']
theorem zero_zCast : (Try.prog.info? 30).map (fun i => (i.zero, i.size)) = some (some (.agg zCast.toArray), zCast.length) := by kernel_rfl
theorem row_zCast : Hold.TyRow Try.prog 30 1 := ⟨_, Try.underlying30, rfl, by kernel_rfl⟩

set_option maxHeartbeats 3200000 in
theorem readCast_any (s : ByteArray) (V0 : ByteArray) (E : Int) (w : World) (h0 : V0 = okB (fun x => x) (readCast s.data.toList)) (hE : E = errV (readCast s.data.toList)) (hs : s.size ≤ 1000000000) :
    Calls Try.prog 20 #[.string s] w fun e w' => e = .returned (.tuple #[.agg #[.string V0], .int .i64 E]) ∧ Below w.heap.size w w' := by
  have hsl : s.data.toList.length = s.size := rfl
  have HM := Lib.hid (Hold.Hld.start w)
  cases g0 : readStr s.data.toList 0 with
  | error y =>
    have hre : readCast s.data.toList = .error y := by
      rw [readCast, whole, g0]
      rfl
    rw [hre] at hE h0
    obtain rfl : V0 = ⟨#[]⟩ := h0
    obtain rfl : E = (y : Int) := hE
    have R0 := Lib.hid (fun u => RPrt.readStr_any s 0 u ⟨#[]⟩ 0 (y : Int) (by rw [g0]; rfl) (by rw [g0]; rfl) (by rw [g0]; rfl) (by omega) (by omega) hs)
    have hy : 1 ≤ y ∧ y ≤ 4 := readStr_err _ _ _ g0
    have hne : ((y : Int) != 0) = true := by simp; omega
    have RE := Lib.hid (fun u => ended_any s 0 (y : Int) (y : Int) u (by rw [if_neg (by omega)]))
    clear hy hre g0 hsl
    go_enter Try.func20, Try.ntmps20
    go_wp2_with ((first
      | (with_reducible refine Hold.alloc HM.out rfl rfl zCast zero_zCast ?_; clear HM; intro b0 w HM; simp only [List.nil_append] at HM; replace HM := Lib.hid HM)
      | (with_reducible (refine (R0.out _).mono ?_; rintro e w ⟨rfl, hb⟩; replace HM := Lib.hid (HM.out.next hb); clear hb))
      | (with_reducible refine (RE.out _).mono ?_; rintro e w ⟨rfl, rfl⟩)
      | (with_reducible refine Hold.build (t := 30) (parts := #[]) (cs := zCast) rfl rfl ?_ ?_; focus (kernel_rfl))
      | (with_reducible refine Hold.store HM.out 0 (v' := zCast) rfl rfl rfl rfl rfl (by rw [Nat.zero_add]; exact Nat.le_refl _) (Hold.lay_all rfl) (zCast_one) (by rw [zCast_len]; exact row_zCast) ?_; clear HM; intro w HM; simp only [List.set_cons_zero] at HM; replace HM := Lib.hid HM)))

    refine bodyPost_ret (Hold.resultsCT HM.out 0 rfl _ rfl rfl rfl (by rw [zCast_len]; exact row_zCast)) rfl ?_
    exact ⟨rfl, HM.out.below⟩
  | ok r0 =>
    obtain ⟨x0, p0⟩ := r0
    have q0 : p0 ≤ s.size := (readStr_facts _ _ _ _ g0).2.2.1
    have R0 := Lib.hid (fun u => RPrt.readStr_any s 0 u (tx x0) (p0 : Int) 0 (by rw [g0]; rfl) (by rw [g0]; rfl) (by rw [g0]; rfl) (by omega) (by omega) hs)
    have hne : ((0 : Int) != 0) = false := by simp
    by_cases hq : p0 = s.size
    · subst hq
      have hre : readCast s.data.toList = .ok x0 := by
        rw [readCast, whole, g0]
        exact ends_ok _ _
      rw [hre] at hE h0
      have k0 : V0 = tx x0 := h0
      rw [← k0] at R0
      obtain rfl : E = 0 := hE
      have RE := Lib.hid (fun u => ended_any s (s.size : Int) 0 0 u (by rw [if_neg (by omega)]))
      clear hre g0 k0 h0 hsl
      go_enter Try.func20, Try.ntmps20
      go_wp2_with ((first
        | (with_reducible refine Hold.alloc HM.out rfl rfl zCast zero_zCast ?_; clear HM; intro b0 w HM; simp only [List.nil_append] at HM; replace HM := Lib.hid HM)
        | (with_reducible (refine (R0.out _).mono ?_; rintro e w ⟨rfl, hb⟩; replace HM := Lib.hid (HM.out.next hb); clear hb))
        | (with_reducible refine (RE.out _).mono ?_; rintro e w ⟨rfl, rfl⟩)
        | (refine Hold.store HM.out 0 (v' := [.string V0]) rfl rfl rfl rfl rfl (by simp [zCast_len]) (Hold.lay_all rfl) (by simp [Hold.Single, Value.oneCell']) row_zCast ?_; clear HM; intro w HM; simp only [List.set_cons_zero] at HM; replace HM := Lib.hid HM)))

      refine bodyPost_ret (Hold.resultsCT HM.out 0 rfl _ rfl rfl rfl row_zCast) rfl ?_
      exact ⟨rfl, HM.out.below⟩
    · have hre : readCast s.data.toList = .error 3 := by
        rw [readCast, whole, g0]
        exact ends_left _ _ _ (fun h => hq (h.trans hsl))
      rw [hre] at hE h0
      obtain rfl : V0 = ⟨#[]⟩ := h0
      obtain rfl : E = (3 : Int) := hE
      have RE := Lib.hid (fun u => ended_any s (p0 : Int) 0 3 u (by rw [if_pos ⟨rfl, by omega⟩]))
      have hne3 : ((3 : Int) != 0) = true := by simp
      clear hre hq g0 hsl
      go_enter Try.func20, Try.ntmps20
      go_wp2_with ((first
        | (with_reducible refine Hold.alloc HM.out rfl rfl zCast zero_zCast ?_; clear HM; intro b0 w HM; simp only [List.nil_append] at HM; replace HM := Lib.hid HM)
        | (with_reducible (refine (R0.out _).mono ?_; rintro e w ⟨rfl, hb⟩; replace HM := Lib.hid (HM.out.next hb); clear hb))
        | (with_reducible refine (RE.out _).mono ?_; rintro e w ⟨rfl, rfl⟩)
        | (with_reducible refine Hold.build (t := 30) (parts := #[]) (cs := zCast) rfl rfl ?_ ?_; focus (kernel_rfl))
        | (with_reducible refine Hold.store HM.out 0 (v' := zCast) rfl rfl rfl rfl rfl (by rw [Nat.zero_add]; exact Nat.le_refl _) (Hold.lay_all rfl) (zCast_one) (by rw [zCast_len]; exact row_zCast) ?_; clear HM; intro w HM; simp only [List.set_cons_zero] at HM; replace HM := Lib.hid HM)))

      refine bodyPost_ret (Hold.resultsCT HM.out 0 rfl _ rfl rfl rfl (by rw [zCast_len]; exact row_zCast)) rfl ?_
      exact ⟨rfl, HM.out.below⟩

def zList : List Value := [.slice none 0 0, .int .i64 0]
theorem zList_len : zList.length = 2 := rfl
theorem zList_one : Hold.Single zList := by simp [Hold.Single, zList, Value.oneCell']
theorem zero_zList : (Try.prog.info? 33).map (fun i => (i.zero, i.size)) = some (some (.agg zList.toArray), zList.length) := by kernel_rfl
theorem row_zList : Hold.TyRow Try.prog 33 2 := ⟨_, Try.underlying33, rfl, by kernel_rfl⟩

set_option maxHeartbeats 3200000 in
theorem readList_any (s : ByteArray) (V0 : List Nat) (V1 : Int) (E : Int) (w : World) (h0 : V0 = okL (fun x => x.1) (readList s.data.toList)) (h1 : V1 = okN (fun x => x.2) (readList s.data.toList)) (hE : E = errV (readList s.data.toList)) (hs : s.size ≤ 1000000000) :
    Calls Try.prog 22 #[.string s] w fun e w' => ∃ ao c, e = .returned (.tuple #[.agg #[.slice ao V0.length c, .int .i64 V1], .int .i64 E]) ∧ IntsR w' ao (zl V0) ∧ (∀ q, ao = some q → w.heap.size ≤ q.block) ∧ Below w.heap.size w w' := by
  have hsl : s.data.toList.length = s.size := rfl
  have HM := Lib.hid (Hold.Hld.start w)
  cases g0 : readAll readNum s.data.toList 0 with
  | error y =>
    have hre : readList s.data.toList = .error y := by
      rw [readList, whole, readP_one _ _ _ g0]
      rfl
    rw [hre] at hE h0 h1
    obtain rfl : V0 = [] := h0
    obtain rfl : V1 = 0 := h1
    obtain rfl : E = (y : Int) := hE
    have R0 := Lib.hid (fun u => RPrt.readnums_any s 0 u [] 0 (y : Int) (by rw [g0]; rfl) (by rw [g0]; rfl) (by rw [g0]; rfl) (by omega) (by omega) hs)
    have hy : 1 ≤ y ∧ y ≤ 4 := readAll_errs _ readNum_errs _ _ _ g0
    have hne : ((y : Int) != 0) = true := by simp; omega
    clear hy hre g0 hsl
    go_enter Try.func22, Try.ntmps22
    go_wp2_with ((first
      | (with_reducible refine Hold.alloc HM.out rfl rfl zList zero_zList ?_; clear HM; intro b0 w HM; simp only [List.nil_append] at HM; replace HM := Lib.hid HM)
      | (with_reducible (refine (R0.out _).mono ?_; rintro e w ⟨ao, c, rfl, hi, hf, hb⟩; have HF := Lib.hid (fun (q : Addr) (hq : ao = some q) => Nat.lt_of_lt_of_le (HM.out.at 0 rfl).lt (hf q hq)); have HL := Lib.hid (HM.out.old _ (List.mem_singleton.2 rfl)); replace HM := Lib.hid (HM.out.next hb); clear hb hf; have HI := Lib.hid hi; clear hi))
      | (with_reducible refine Hold.build (t := 33) (parts := #[]) (cs := zList) rfl rfl ?_ ?_; focus (kernel_rfl))
      | (with_reducible refine Hold.store HM.out 0 (v' := zList) rfl rfl rfl rfl rfl (by rw [Nat.zero_add]; exact Nat.le_refl _) (Hold.lay_all rfl) (zList_one) (by rw [zList_len]; exact row_zList) ?_; clear HM; intro w HM; simp only [List.set_cons_zero] at HM; replace HM := Lib.hid HM)))

    refine bodyPost_ret (Hold.resultsCT HM.out 0 rfl _ rfl rfl rfl (by rw [zList_len]; exact row_zList)) rfl ?_
    exact ⟨none, 0, rfl, fun h => absurd rfl h, (fun q hq => by cases hq), HM.out.below⟩
  | ok r0 =>
    obtain ⟨x0, p0⟩ := r0
    have q0 : p0 ≤ s.size := ((listC natC).rl s.data.toList 0 p0 x0 (by rw [Int.natCast_zero]; exact g0)).2.2
    have R0 := Lib.hid (fun u => RPrt.readnums_any s 0 u x0 (p0 : Int) 0 (by rw [g0]; rfl) (by rw [g0]; rfl) (by rw [g0]; rfl) (by omega) (by omega) hs)
    cases g1 : readNum s.data.toList (p0 : Int) with
    | error y =>
      have hre : readList s.data.toList = .error y := by
        rw [readList, whole, readP_two _ _ _ _ _ g0 g1]
        rfl
      rw [hre] at hE h0 h1
      obtain rfl : V0 = [] := h0
      obtain rfl : V1 = 0 := h1
      obtain rfl : E = (y : Int) := hE
      have R1 := Lib.hid (fun u => RPrt.readNum_any s (p0 : Int) u 0 0 (y : Int) (by rw [g1]; rfl) (by rw [g1]; rfl) (by rw [g1]; rfl) (by omega) (by omega) hs)
      have hy : 1 ≤ y ∧ y ≤ 4 := readNum_errs _ _ _ g1
      have hne : ((y : Int) != 0) = true := by simp; omega
      have RE := Lib.hid (fun u => ended_any s 0 (y : Int) (y : Int) u (by rw [if_neg (by omega)]))
      clear hy hre g0 g1 hsl
      go_enter Try.func22, Try.ntmps22
      go_wp2_with ((first
        | (with_reducible refine Hold.alloc HM.out rfl rfl zList zero_zList ?_; clear HM; intro b0 w HM; simp only [List.nil_append] at HM; replace HM := Lib.hid HM)
        | (with_reducible (refine (R0.out _).mono ?_; rintro e w ⟨ao, c, rfl, hi, hf, hb⟩; have HF := Lib.hid (fun (q : Addr) (hq : ao = some q) => Nat.lt_of_lt_of_le (HM.out.at 0 rfl).lt (hf q hq)); have HL := Lib.hid (HM.out.old _ (List.mem_singleton.2 rfl)); replace HM := Lib.hid (HM.out.next hb); clear hb hf; have HI := Lib.hid hi; clear hi))
        | (with_reducible (refine (R1.out _).mono ?_; rintro e w ⟨rfl, hb⟩; replace HM := Lib.hid (HM.out.next hb); replace HI := Lib.hid (HI.out.below hb); clear hb))
        | (with_reducible refine (RE.out _).mono ?_; rintro e w ⟨rfl, rfl⟩)
        | (with_reducible refine Hold.build (t := 33) (parts := #[]) (cs := zList) rfl rfl ?_ ?_; focus (kernel_rfl))
        | (with_reducible refine Hold.store HM.out 0 (v' := zList) rfl rfl rfl rfl rfl (by rw [Nat.zero_add]; exact Nat.le_refl _) (Hold.lay_all rfl) (zList_one) (by rw [zList_len]; exact row_zList) ?_; clear HM; intro w HM; simp only [List.set_cons_zero] at HM; replace HM := Lib.hid HM)))

      refine bodyPost_ret (Hold.resultsCT HM.out 0 rfl _ rfl rfl rfl (by rw [zList_len]; exact row_zList)) rfl ?_
      exact ⟨none, 0, rfl, fun h => absurd rfl h, (fun q hq => by cases hq), HM.out.below⟩
    | ok r1 =>
      obtain ⟨x1, p1⟩ := r1
      have q1 : p1 ≤ s.size := (readNum_facts _ _ _ _ g1).2.2.1
      have R1 := Lib.hid (fun u => RPrt.readNum_any s (p0 : Int) u (x1 : Int) (p1 : Int) 0 (by rw [g1]; rfl) (by rw [g1]; rfl) (by rw [g1]; rfl) (by omega) (by omega) hs)
      have hne : ((0 : Int) != 0) = false := by simp
      by_cases hq : p1 = s.size
      · subst hq
        have hre : readList s.data.toList = .ok (x0, x1) := by
          rw [readList, whole, readP_ok _ _ _ _ _ _ g0 g1]
          exact ends_ok _ _
        rw [hre] at hE h0 h1
        obtain rfl : V0 = x0 := h0
        have k1 : V1 = (x1 : Int) := h1
        rw [← k1] at R1
        obtain rfl : E = 0 := hE
        have RE := Lib.hid (fun u => ended_any s (s.size : Int) 0 0 u (by rw [if_neg (by omega)]))
        obtain ⟨M, hM⟩ : ∃ M, M = V0.length := ⟨_, rfl⟩
        rw [← hM] at R0 ⊢
        clear hM
        clear hre g0 g1 k1 h1 hsl
        go_enter Try.func22, Try.ntmps22
        go_wp2_with ((first
          | (with_reducible refine Hold.alloc HM.out rfl rfl zList zero_zList ?_; clear HM; intro b0 w HM; simp only [List.nil_append] at HM; replace HM := Lib.hid HM)
          | (with_reducible (refine (R0.out _).mono ?_; rintro e w ⟨ao, c, rfl, hi, hf, hb⟩; have HF := Lib.hid (fun (q : Addr) (hq : ao = some q) => Nat.lt_of_lt_of_le (HM.out.at 0 rfl).lt (hf q hq)); have HL := Lib.hid (HM.out.old _ (List.mem_singleton.2 rfl)); replace HM := Lib.hid (HM.out.next hb); clear hb hf; have HI := Lib.hid hi; clear hi))
          | (with_reducible (refine (R1.out _).mono ?_; rintro e w ⟨rfl, hb⟩; replace HM := Lib.hid (HM.out.next hb); replace HI := Lib.hid (HI.out.below hb); clear hb))
          | (with_reducible refine (RE.out _).mono ?_; rintro e w ⟨rfl, rfl⟩)
          | (refine Hold.store_k HM.out 0 (v' := [.slice ao M c, .int .i64 V1]) rfl rfl rfl rfl rfl (by simp [zList_len]) (Hold.lay_all rfl) (by simp [Hold.Single, Value.oneCell']) row_zList ?_; clear HM; intro wn hw HM; simp only [List.set_cons_zero] at HM; replace HM := Lib.hid HM; have HI2 := Lib.hid (show IntsR wn ao (zl V0) from by rw [hw]; exact Hold.ints_sets HI.out _ b0 0 (fun q hq => Nat.ne_of_gt (HF.out q hq))); clear hw HI)))

        refine bodyPost_ret (Hold.resultsCT HM.out 0 rfl _ rfl rfl rfl row_zList) rfl ?_
        exact ⟨ao, c, rfl, HI2.out, (fun q hq => Nat.le_trans HL.out (Nat.le_of_lt (HF.out q hq))), HM.out.below⟩
      · have hre : readList s.data.toList = .error 3 := by
          rw [readList, whole, readP_ok _ _ _ _ _ _ g0 g1]
          exact ends_left _ _ _ (fun h => hq (h.trans hsl))
        rw [hre] at hE h0 h1
        obtain rfl : V0 = [] := h0
        obtain rfl : V1 = 0 := h1
        obtain rfl : E = (3 : Int) := hE
        have RE := Lib.hid (fun u => ended_any s (p1 : Int) 0 3 u (by rw [if_pos ⟨rfl, by omega⟩]))
        have hne3 : ((3 : Int) != 0) = true := by simp
        clear hre hq g0 g1 hsl
        go_enter Try.func22, Try.ntmps22
        go_wp2_with ((first
          | (with_reducible refine Hold.alloc HM.out rfl rfl zList zero_zList ?_; clear HM; intro b0 w HM; simp only [List.nil_append] at HM; replace HM := Lib.hid HM)
          | (with_reducible (refine (R0.out _).mono ?_; rintro e w ⟨ao, c, rfl, hi, hf, hb⟩; have HF := Lib.hid (fun (q : Addr) (hq : ao = some q) => Nat.lt_of_lt_of_le (HM.out.at 0 rfl).lt (hf q hq)); have HL := Lib.hid (HM.out.old _ (List.mem_singleton.2 rfl)); replace HM := Lib.hid (HM.out.next hb); clear hb hf; have HI := Lib.hid hi; clear hi))
          | (with_reducible (refine (R1.out _).mono ?_; rintro e w ⟨rfl, hb⟩; replace HM := Lib.hid (HM.out.next hb); replace HI := Lib.hid (HI.out.below hb); clear hb))
          | (with_reducible refine (RE.out _).mono ?_; rintro e w ⟨rfl, rfl⟩)
          | (with_reducible refine Hold.build (t := 33) (parts := #[]) (cs := zList) rfl rfl ?_ ?_; focus (kernel_rfl))
          | (with_reducible refine Hold.store HM.out 0 (v' := zList) rfl rfl rfl rfl rfl (by rw [Nat.zero_add]; exact Nat.le_refl _) (Hold.lay_all rfl) (zList_one) (by rw [zList_len]; exact row_zList) ?_; clear HM; intro w HM; simp only [List.set_cons_zero] at HM; replace HM := Lib.hid HM)))

        refine bodyPost_ret (Hold.resultsCT HM.out 0 rfl _ rfl rfl rfl (by rw [zList_len]; exact row_zList)) rfl ?_
        exact ⟨none, 0, rfl, fun h => absurd rfl h, (fun q hq => by cases hq), HM.out.below⟩

def zShare : List Value := [.string ⟨#[]⟩, .slice none 0 0]
theorem zShare_len : zShare.length = 2 := rfl
theorem zShare_one : Hold.Single zShare := by simp [Hold.Single, zShare, Value.oneCell']
theorem zero_zShare : (Try.prog.info? 39).map (fun i => (i.zero, i.size)) = some (some (.agg zShare.toArray), zShare.length) := by kernel_rfl
theorem row_zShare : Hold.TyRow Try.prog 39 2 := ⟨_, Try.underlying39, rfl, by kernel_rfl⟩

set_option maxHeartbeats 3200000 in
theorem readShare_any (s : ByteArray) (V0 : ByteArray) (V1 : List (List UInt8)) (E : Int) (w : World) (h0 : V0 = okB (fun x => x.1) (readShare s.data.toList)) (h1 : V1 = okL (fun x => x.2) (readShare s.data.toList)) (hE : E = errV (readShare s.data.toList)) (hs : s.size ≤ 1000000000) :
    Calls Try.prog 26 #[.string s] w fun e w' => ∃ ao c, e = .returned (.tuple #[.agg #[.string V0, .slice ao V1.length c], .int .i64 E]) ∧ StrsR w' ao (tl V1) ∧ (∀ q, ao = some q → w.heap.size ≤ q.block) ∧ Below w.heap.size w w' := by
  have hsl : s.data.toList.length = s.size := rfl
  have HM := Lib.hid (Hold.Hld.start w)
  cases g0 : readStr s.data.toList 0 with
  | error y =>
    have hre : readShare s.data.toList = .error y := by
      rw [readShare, whole, readP_one _ _ _ g0]
      rfl
    rw [hre] at hE h0 h1
    obtain rfl : V0 = ⟨#[]⟩ := h0
    obtain rfl : V1 = [] := h1
    obtain rfl : E = (y : Int) := hE
    have R0 := Lib.hid (fun u => RPrt.readStr_any s 0 u ⟨#[]⟩ 0 (y : Int) (by rw [g0]; rfl) (by rw [g0]; rfl) (by rw [g0]; rfl) (by omega) (by omega) hs)
    have hy : 1 ≤ y ∧ y ≤ 4 := readStr_err _ _ _ g0
    have hne : ((y : Int) != 0) = true := by simp; omega
    clear hy hre g0 hsl
    go_enter Try.func26, Try.ntmps26
    go_wp2_with ((first
      | (with_reducible refine Hold.alloc HM.out rfl rfl zShare zero_zShare ?_; clear HM; intro b0 w HM; simp only [List.nil_append] at HM; replace HM := Lib.hid HM)
      | (with_reducible (refine (R0.out _).mono ?_; rintro e w ⟨rfl, hb⟩; replace HM := Lib.hid (HM.out.next hb); clear hb))
      | (with_reducible refine Hold.build (t := 39) (parts := #[]) (cs := zShare) rfl rfl ?_ ?_; focus (kernel_rfl))
      | (with_reducible refine Hold.store HM.out 0 (v' := zShare) rfl rfl rfl rfl rfl (by rw [Nat.zero_add]; exact Nat.le_refl _) (Hold.lay_all rfl) (zShare_one) (by rw [zShare_len]; exact row_zShare) ?_; clear HM; intro w HM; simp only [List.set_cons_zero] at HM; replace HM := Lib.hid HM)))

    refine bodyPost_ret (Hold.resultsCT HM.out 0 rfl _ rfl rfl rfl (by rw [zShare_len]; exact row_zShare)) rfl ?_
    exact ⟨none, 0, rfl, fun h => absurd rfl h, (fun q hq => by cases hq), HM.out.below⟩
  | ok r0 =>
    obtain ⟨x0, p0⟩ := r0
    have q0 : p0 ≤ s.size := (readStr_facts _ _ _ _ g0).2.2.1
    have R0 := Lib.hid (fun u => RPrt.readStr_any s 0 u (tx x0) (p0 : Int) 0 (by rw [g0]; rfl) (by rw [g0]; rfl) (by rw [g0]; rfl) (by omega) (by omega) hs)
    cases g1 : readAll readStr s.data.toList (p0 : Int) with
    | error y =>
      have hre : readShare s.data.toList = .error y := by
        rw [readShare, whole, readP_two _ _ _ _ _ g0 g1]
        rfl
      rw [hre] at hE h0 h1
      obtain rfl : V0 = ⟨#[]⟩ := h0
      obtain rfl : V1 = [] := h1
      obtain rfl : E = (y : Int) := hE
      have R1 := Lib.hid (fun u => RPrt.readstrs_any s (p0 : Int) u [] 0 (y : Int) (by rw [g1]; rfl) (by rw [g1]; rfl) (by rw [g1]; rfl) (by omega) (by omega) hs)
      have hy : 1 ≤ y ∧ y ≤ 4 := readAll_errs _ readStr_errs _ _ _ g1
      have hne : ((y : Int) != 0) = true := by simp; omega
      have RE := Lib.hid (fun u => ended_any s 0 (y : Int) (y : Int) u (by rw [if_neg (by omega)]))
      clear hy hre g0 g1 hsl
      go_enter Try.func26, Try.ntmps26
      go_wp2_with ((first
        | (with_reducible refine Hold.alloc HM.out rfl rfl zShare zero_zShare ?_; clear HM; intro b0 w HM; simp only [List.nil_append] at HM; replace HM := Lib.hid HM)
        | (with_reducible (refine (R0.out _).mono ?_; rintro e w ⟨rfl, hb⟩; replace HM := Lib.hid (HM.out.next hb); clear hb))
        | (with_reducible (refine (R1.out _).mono ?_; rintro e w ⟨ao, c, rfl, hi, hf, hb⟩; have HF := Lib.hid (fun (q : Addr) (hq : ao = some q) => Nat.lt_of_lt_of_le (HM.out.at 0 rfl).lt (hf q hq)); have HL := Lib.hid (HM.out.old _ (List.mem_singleton.2 rfl)); replace HM := Lib.hid (HM.out.next hb); clear hb hf; have HI := Lib.hid hi; clear hi))
        | (with_reducible refine (RE.out _).mono ?_; rintro e w ⟨rfl, rfl⟩)
        | (with_reducible refine Hold.build (t := 39) (parts := #[]) (cs := zShare) rfl rfl ?_ ?_; focus (kernel_rfl))
        | (with_reducible refine Hold.store HM.out 0 (v' := zShare) rfl rfl rfl rfl rfl (by rw [Nat.zero_add]; exact Nat.le_refl _) (Hold.lay_all rfl) (zShare_one) (by rw [zShare_len]; exact row_zShare) ?_; clear HM; intro w HM; simp only [List.set_cons_zero] at HM; replace HM := Lib.hid HM)))

      refine bodyPost_ret (Hold.resultsCT HM.out 0 rfl _ rfl rfl rfl (by rw [zShare_len]; exact row_zShare)) rfl ?_
      exact ⟨none, 0, rfl, fun h => absurd rfl h, (fun q hq => by cases hq), HM.out.below⟩
    | ok r1 =>
      obtain ⟨x1, p1⟩ := r1
      have q1 : p1 ≤ s.size := ((listC strC).rl s.data.toList p0 p1 x1 g1).2.2
      have R1 := Lib.hid (fun u => RPrt.readstrs_any s (p0 : Int) u x1 (p1 : Int) 0 (by rw [g1]; rfl) (by rw [g1]; rfl) (by rw [g1]; rfl) (by omega) (by omega) hs)
      have hne : ((0 : Int) != 0) = false := by simp
      by_cases hq : p1 = s.size
      · subst hq
        have hre : readShare s.data.toList = .ok (x0, x1) := by
          rw [readShare, whole, readP_ok _ _ _ _ _ _ g0 g1]
          exact ends_ok _ _
        rw [hre] at hE h0 h1
        have k0 : V0 = tx x0 := h0
        rw [← k0] at R0
        obtain rfl : V1 = x1 := h1
        obtain rfl : E = 0 := hE
        have RE := Lib.hid (fun u => ended_any s (s.size : Int) 0 0 u (by rw [if_neg (by omega)]))
        obtain ⟨M, hM⟩ : ∃ M, M = V1.length := ⟨_, rfl⟩
        rw [← hM] at R1 ⊢
        clear hM
        clear hre g0 g1 k0 h0 hsl
        go_enter Try.func26, Try.ntmps26
        go_wp2_with ((first
          | (with_reducible refine Hold.alloc HM.out rfl rfl zShare zero_zShare ?_; clear HM; intro b0 w HM; simp only [List.nil_append] at HM; replace HM := Lib.hid HM)
          | (with_reducible (refine (R0.out _).mono ?_; rintro e w ⟨rfl, hb⟩; replace HM := Lib.hid (HM.out.next hb); clear hb))
          | (with_reducible (refine (R1.out _).mono ?_; rintro e w ⟨ao, c, rfl, hi, hf, hb⟩; have HF := Lib.hid (fun (q : Addr) (hq : ao = some q) => Nat.lt_of_lt_of_le (HM.out.at 0 rfl).lt (hf q hq)); have HL := Lib.hid (HM.out.old _ (List.mem_singleton.2 rfl)); replace HM := Lib.hid (HM.out.next hb); clear hb hf; have HI := Lib.hid hi; clear hi))
          | (with_reducible refine (RE.out _).mono ?_; rintro e w ⟨rfl, rfl⟩)
          | (refine Hold.store_k HM.out 0 (v' := [.string V0, .slice ao M c]) rfl rfl rfl rfl rfl (by simp [zShare_len]) (Hold.lay_all rfl) (by simp [Hold.Single, Value.oneCell']) row_zShare ?_; clear HM; intro wn hw HM; simp only [List.set_cons_zero] at HM; replace HM := Lib.hid HM; have HI2 := Lib.hid (show StrsR wn ao (tl V1) from by rw [hw]; exact Hold.strs_sets HI.out _ b0 0 (fun q hq => Nat.ne_of_gt (HF.out q hq))); clear hw HI)))

        refine bodyPost_ret (Hold.resultsCT HM.out 0 rfl _ rfl rfl rfl row_zShare) rfl ?_
        exact ⟨ao, c, rfl, HI2.out, (fun q hq => Nat.le_trans HL.out (Nat.le_of_lt (HF.out q hq))), HM.out.below⟩
      · have hre : readShare s.data.toList = .error 3 := by
          rw [readShare, whole, readP_ok _ _ _ _ _ _ g0 g1]
          exact ends_left _ _ _ (fun h => hq (h.trans hsl))
        rw [hre] at hE h0 h1
        obtain rfl : V0 = ⟨#[]⟩ := h0
        obtain rfl : V1 = [] := h1
        obtain rfl : E = (3 : Int) := hE
        have RE := Lib.hid (fun u => ended_any s (p1 : Int) 0 3 u (by rw [if_pos ⟨rfl, by omega⟩]))
        have hne3 : ((3 : Int) != 0) = true := by simp
        clear hre hq g0 g1 hsl
        go_enter Try.func26, Try.ntmps26
        go_wp2_with ((first
          | (with_reducible refine Hold.alloc HM.out rfl rfl zShare zero_zShare ?_; clear HM; intro b0 w HM; simp only [List.nil_append] at HM; replace HM := Lib.hid HM)
          | (with_reducible (refine (R0.out _).mono ?_; rintro e w ⟨rfl, hb⟩; replace HM := Lib.hid (HM.out.next hb); clear hb))
          | (with_reducible (refine (R1.out _).mono ?_; rintro e w ⟨ao, c, rfl, hi, hf, hb⟩; have HF := Lib.hid (fun (q : Addr) (hq : ao = some q) => Nat.lt_of_lt_of_le (HM.out.at 0 rfl).lt (hf q hq)); have HL := Lib.hid (HM.out.old _ (List.mem_singleton.2 rfl)); replace HM := Lib.hid (HM.out.next hb); clear hb hf; have HI := Lib.hid hi; clear hi))
          | (with_reducible refine (RE.out _).mono ?_; rintro e w ⟨rfl, rfl⟩)
          | (with_reducible refine Hold.build (t := 39) (parts := #[]) (cs := zShare) rfl rfl ?_ ?_; focus (kernel_rfl))
          | (with_reducible refine Hold.store HM.out 0 (v' := zShare) rfl rfl rfl rfl rfl (by rw [Nat.zero_add]; exact Nat.le_refl _) (Hold.lay_all rfl) (zShare_one) (by rw [zShare_len]; exact row_zShare) ?_; clear HM; intro w HM; simp only [List.set_cons_zero] at HM; replace HM := Lib.hid HM)))

        refine bodyPost_ret (Hold.resultsCT HM.out 0 rfl _ rfl rfl rfl (by rw [zShare_len]; exact row_zShare)) rfl ?_
        exact ⟨none, 0, rfl, fun h => absurd rfl h, (fun q hq => by cases hq), HM.out.below⟩

def zCert : List Value := [.string ⟨#[]⟩, .slice none 0 0, .int .i64 0]
theorem zCert_len : zCert.length = 3 := rfl
theorem zCert_one : Hold.Single zCert := by simp [Hold.Single, zCert, Value.oneCell']
theorem zero_zCert : (Try.prog.info? 42).map (fun i => (i.zero, i.size)) = some (some (.agg zCert.toArray), zCert.length) := by kernel_rfl
theorem row_zCert : Hold.TyRow Try.prog 42 3 := ⟨_, Try.underlying42, rfl, by kernel_rfl⟩

set_option maxHeartbeats 3200000 in
theorem readCert_any (s : ByteArray) (V0 : ByteArray) (V1 : List Nat) (V2 : Int) (E : Int) (w : World) (h0 : V0 = okB (fun x => x.1.1) (readCert s.data.toList)) (h1 : V1 = okL (fun x => x.1.2) (readCert s.data.toList)) (h2 : V2 = okN (fun x => x.2) (readCert s.data.toList)) (hE : E = errV (readCert s.data.toList)) (hs : s.size ≤ 1000000000) :
    Calls Try.prog 28 #[.string s] w fun e w' => ∃ ao c, e = .returned (.tuple #[.agg #[.string V0, .slice ao V1.length c, .int .i64 V2], .int .i64 E]) ∧ IntsR w' ao (zl V1) ∧ (∀ q, ao = some q → w.heap.size ≤ q.block) ∧ Below w.heap.size w w' := by
  have hsl : s.data.toList.length = s.size := rfl
  have HM := Lib.hid (Hold.Hld.start w)
  cases g0 : readStr s.data.toList 0 with
  | error y =>
    have hre : readCert s.data.toList = .error y := by
      rw [readCert, whole, readP_one _ _ _ (readP_one _ _ _ g0)]
      rfl
    rw [hre] at hE h0 h1 h2
    obtain rfl : V0 = ⟨#[]⟩ := h0
    obtain rfl : V1 = [] := h1
    obtain rfl : V2 = 0 := h2
    obtain rfl : E = (y : Int) := hE
    have R0 := Lib.hid (fun u => RPrt.readStr_any s 0 u ⟨#[]⟩ 0 (y : Int) (by rw [g0]; rfl) (by rw [g0]; rfl) (by rw [g0]; rfl) (by omega) (by omega) hs)
    have hy : 1 ≤ y ∧ y ≤ 4 := readStr_err _ _ _ g0
    have hne : ((y : Int) != 0) = true := by simp; omega
    clear hy hre g0 hsl
    go_enter Try.func28, Try.ntmps28
    go_wp2_with ((first
      | (with_reducible refine Hold.alloc HM.out rfl rfl zCert zero_zCert ?_; clear HM; intro b0 w HM; simp only [List.nil_append] at HM; replace HM := Lib.hid HM)
      | (with_reducible (refine (R0.out _).mono ?_; rintro e w ⟨rfl, hb⟩; replace HM := Lib.hid (HM.out.next hb); clear hb))
      | (with_reducible refine Hold.build (t := 42) (parts := #[]) (cs := zCert) rfl rfl ?_ ?_; focus (kernel_rfl))
      | (with_reducible refine Hold.store HM.out 0 (v' := zCert) rfl rfl rfl rfl rfl (by rw [Nat.zero_add]; exact Nat.le_refl _) (Hold.lay_all rfl) (zCert_one) (by rw [zCert_len]; exact row_zCert) ?_; clear HM; intro w HM; simp only [List.set_cons_zero] at HM; replace HM := Lib.hid HM)))

    refine bodyPost_ret (Hold.resultsCT HM.out 0 rfl _ rfl rfl rfl (by rw [zCert_len]; exact row_zCert)) rfl ?_
    exact ⟨none, 0, rfl, fun h => absurd rfl h, (fun q hq => by cases hq), HM.out.below⟩
  | ok r0 =>
    obtain ⟨x0, p0⟩ := r0
    have q0 : p0 ≤ s.size := (readStr_facts _ _ _ _ g0).2.2.1
    have R0 := Lib.hid (fun u => RPrt.readStr_any s 0 u (tx x0) (p0 : Int) 0 (by rw [g0]; rfl) (by rw [g0]; rfl) (by rw [g0]; rfl) (by omega) (by omega) hs)
    cases g1 : readAll readNum s.data.toList (p0 : Int) with
    | error y =>
      have hre : readCert s.data.toList = .error y := by
        rw [readCert, whole, readP_one _ _ _ (readP_two _ _ _ _ _ g0 g1)]
        rfl
      rw [hre] at hE h0 h1 h2
      obtain rfl : V0 = ⟨#[]⟩ := h0
      obtain rfl : V1 = [] := h1
      obtain rfl : V2 = 0 := h2
      obtain rfl : E = (y : Int) := hE
      have R1 := Lib.hid (fun u => RPrt.readnums_any s (p0 : Int) u [] 0 (y : Int) (by rw [g1]; rfl) (by rw [g1]; rfl) (by rw [g1]; rfl) (by omega) (by omega) hs)
      have hy : 1 ≤ y ∧ y ≤ 4 := readAll_errs _ readNum_errs _ _ _ g1
      have hne : ((y : Int) != 0) = true := by simp; omega
      clear hy hre g0 g1 hsl
      go_enter Try.func28, Try.ntmps28
      go_wp2_with ((first
        | (with_reducible refine Hold.alloc HM.out rfl rfl zCert zero_zCert ?_; clear HM; intro b0 w HM; simp only [List.nil_append] at HM; replace HM := Lib.hid HM)
        | (with_reducible (refine (R0.out _).mono ?_; rintro e w ⟨rfl, hb⟩; replace HM := Lib.hid (HM.out.next hb); clear hb))
        | (with_reducible (refine (R1.out _).mono ?_; rintro e w ⟨ao, c, rfl, hi, hf, hb⟩; have HF := Lib.hid (fun (q : Addr) (hq : ao = some q) => Nat.lt_of_lt_of_le (HM.out.at 0 rfl).lt (hf q hq)); have HL := Lib.hid (HM.out.old _ (List.mem_singleton.2 rfl)); replace HM := Lib.hid (HM.out.next hb); clear hb hf; have HI := Lib.hid hi; clear hi))
        | (with_reducible refine Hold.build (t := 42) (parts := #[]) (cs := zCert) rfl rfl ?_ ?_; focus (kernel_rfl))
        | (with_reducible refine Hold.store HM.out 0 (v' := zCert) rfl rfl rfl rfl rfl (by rw [Nat.zero_add]; exact Nat.le_refl _) (Hold.lay_all rfl) (zCert_one) (by rw [zCert_len]; exact row_zCert) ?_; clear HM; intro w HM; simp only [List.set_cons_zero] at HM; replace HM := Lib.hid HM)))

      refine bodyPost_ret (Hold.resultsCT HM.out 0 rfl _ rfl rfl rfl (by rw [zCert_len]; exact row_zCert)) rfl ?_
      exact ⟨none, 0, rfl, fun h => absurd rfl h, (fun q hq => by cases hq), HM.out.below⟩
    | ok r1 =>
      obtain ⟨x1, p1⟩ := r1
      have q1 : p1 ≤ s.size := ((listC natC).rl s.data.toList p0 p1 x1 g1).2.2
      have R1 := Lib.hid (fun u => RPrt.readnums_any s (p0 : Int) u x1 (p1 : Int) 0 (by rw [g1]; rfl) (by rw [g1]; rfl) (by rw [g1]; rfl) (by omega) (by omega) hs)
      cases g2 : readNum s.data.toList (p1 : Int) with
      | error y =>
        have hre : readCert s.data.toList = .error y := by
          rw [readCert, whole, readP_two _ _ _ _ _ (readP_ok _ _ _ _ _ _ g0 g1) g2]
          rfl
        rw [hre] at hE h0 h1 h2
        obtain rfl : V0 = ⟨#[]⟩ := h0
        obtain rfl : V1 = [] := h1
        obtain rfl : V2 = 0 := h2
        obtain rfl : E = (y : Int) := hE
        have R2 := Lib.hid (fun u => RPrt.readNum_any s (p1 : Int) u 0 0 (y : Int) (by rw [g2]; rfl) (by rw [g2]; rfl) (by rw [g2]; rfl) (by omega) (by omega) hs)
        have hy : 1 ≤ y ∧ y ≤ 4 := readNum_errs _ _ _ g2
        have hne : ((y : Int) != 0) = true := by simp; omega
        have RE := Lib.hid (fun u => ended_any s 0 (y : Int) (y : Int) u (by rw [if_neg (by omega)]))
        clear hy hre g0 g1 g2 hsl
        go_enter Try.func28, Try.ntmps28
        go_wp2_with ((first
          | (with_reducible refine Hold.alloc HM.out rfl rfl zCert zero_zCert ?_; clear HM; intro b0 w HM; simp only [List.nil_append] at HM; replace HM := Lib.hid HM)
          | (with_reducible (refine (R0.out _).mono ?_; rintro e w ⟨rfl, hb⟩; replace HM := Lib.hid (HM.out.next hb); clear hb))
          | (with_reducible (refine (R1.out _).mono ?_; rintro e w ⟨ao, c, rfl, hi, hf, hb⟩; have HF := Lib.hid (fun (q : Addr) (hq : ao = some q) => Nat.lt_of_lt_of_le (HM.out.at 0 rfl).lt (hf q hq)); have HL := Lib.hid (HM.out.old _ (List.mem_singleton.2 rfl)); replace HM := Lib.hid (HM.out.next hb); clear hb hf; have HI := Lib.hid hi; clear hi))
          | (with_reducible (refine (R2.out _).mono ?_; rintro e w ⟨rfl, hb⟩; replace HM := Lib.hid (HM.out.next hb); replace HI := Lib.hid (HI.out.below hb); clear hb))
          | (with_reducible refine (RE.out _).mono ?_; rintro e w ⟨rfl, rfl⟩)
          | (with_reducible refine Hold.build (t := 42) (parts := #[]) (cs := zCert) rfl rfl ?_ ?_; focus (kernel_rfl))
          | (with_reducible refine Hold.store HM.out 0 (v' := zCert) rfl rfl rfl rfl rfl (by rw [Nat.zero_add]; exact Nat.le_refl _) (Hold.lay_all rfl) (zCert_one) (by rw [zCert_len]; exact row_zCert) ?_; clear HM; intro w HM; simp only [List.set_cons_zero] at HM; replace HM := Lib.hid HM)))

        refine bodyPost_ret (Hold.resultsCT HM.out 0 rfl _ rfl rfl rfl (by rw [zCert_len]; exact row_zCert)) rfl ?_
        exact ⟨none, 0, rfl, fun h => absurd rfl h, (fun q hq => by cases hq), HM.out.below⟩
      | ok r2 =>
        obtain ⟨x2, p2⟩ := r2
        have q2 : p2 ≤ s.size := (readNum_facts _ _ _ _ g2).2.2.1
        have R2 := Lib.hid (fun u => RPrt.readNum_any s (p1 : Int) u (x2 : Int) (p2 : Int) 0 (by rw [g2]; rfl) (by rw [g2]; rfl) (by rw [g2]; rfl) (by omega) (by omega) hs)
        have hne : ((0 : Int) != 0) = false := by simp
        by_cases hq : p2 = s.size
        · subst hq
          have hre : readCert s.data.toList = .ok ((x0, x1), x2) := by
            rw [readCert, whole, readP_ok _ _ _ _ _ _ (readP_ok _ _ _ _ _ _ g0 g1) g2]
            exact ends_ok _ _
          rw [hre] at hE h0 h1 h2
          have k0 : V0 = tx x0 := h0
          rw [← k0] at R0
          obtain rfl : V1 = x1 := h1
          have k2 : V2 = (x2 : Int) := h2
          rw [← k2] at R2
          obtain rfl : E = 0 := hE
          have RE := Lib.hid (fun u => ended_any s (s.size : Int) 0 0 u (by rw [if_neg (by omega)]))
          obtain ⟨M, hM⟩ : ∃ M, M = V1.length := ⟨_, rfl⟩
          rw [← hM] at R1 ⊢
          clear hM
          clear hre g0 g1 g2 k0 k2 h0 h2 hsl
          go_enter Try.func28, Try.ntmps28
          go_wp2_with ((first
            | (with_reducible refine Hold.alloc HM.out rfl rfl zCert zero_zCert ?_; clear HM; intro b0 w HM; simp only [List.nil_append] at HM; replace HM := Lib.hid HM)
            | (with_reducible (refine (R0.out _).mono ?_; rintro e w ⟨rfl, hb⟩; replace HM := Lib.hid (HM.out.next hb); clear hb))
            | (with_reducible (refine (R1.out _).mono ?_; rintro e w ⟨ao, c, rfl, hi, hf, hb⟩; have HF := Lib.hid (fun (q : Addr) (hq : ao = some q) => Nat.lt_of_lt_of_le (HM.out.at 0 rfl).lt (hf q hq)); have HL := Lib.hid (HM.out.old _ (List.mem_singleton.2 rfl)); replace HM := Lib.hid (HM.out.next hb); clear hb hf; have HI := Lib.hid hi; clear hi))
            | (with_reducible (refine (R2.out _).mono ?_; rintro e w ⟨rfl, hb⟩; replace HM := Lib.hid (HM.out.next hb); replace HI := Lib.hid (HI.out.below hb); clear hb))
            | (with_reducible refine (RE.out _).mono ?_; rintro e w ⟨rfl, rfl⟩)
            | (refine Hold.store_k HM.out 0 (v' := [.string V0, .slice ao M c, .int .i64 V2]) rfl rfl rfl rfl rfl (by simp [zCert_len]) (Hold.lay_all rfl) (by simp [Hold.Single, Value.oneCell']) row_zCert ?_; clear HM; intro wn hw HM; simp only [List.set_cons_zero] at HM; replace HM := Lib.hid HM; have HI2 := Lib.hid (show IntsR wn ao (zl V1) from by rw [hw]; exact Hold.ints_sets HI.out _ b0 0 (fun q hq => Nat.ne_of_gt (HF.out q hq))); clear hw HI)))

          refine bodyPost_ret (Hold.resultsCT HM.out 0 rfl _ rfl rfl rfl row_zCert) rfl ?_
          exact ⟨ao, c, rfl, HI2.out, (fun q hq => Nat.le_trans HL.out (Nat.le_of_lt (HF.out q hq))), HM.out.below⟩
        · have hre : readCert s.data.toList = .error 3 := by
            rw [readCert, whole, readP_ok _ _ _ _ _ _ (readP_ok _ _ _ _ _ _ g0 g1) g2]
            exact ends_left _ _ _ (fun h => hq (h.trans hsl))
          rw [hre] at hE h0 h1 h2
          obtain rfl : V0 = ⟨#[]⟩ := h0
          obtain rfl : V1 = [] := h1
          obtain rfl : V2 = 0 := h2
          obtain rfl : E = (3 : Int) := hE
          have RE := Lib.hid (fun u => ended_any s (p2 : Int) 0 3 u (by rw [if_pos ⟨rfl, by omega⟩]))
          have hne3 : ((3 : Int) != 0) = true := by simp
          clear hre hq g0 g1 g2 hsl
          go_enter Try.func28, Try.ntmps28
          go_wp2_with ((first
            | (with_reducible refine Hold.alloc HM.out rfl rfl zCert zero_zCert ?_; clear HM; intro b0 w HM; simp only [List.nil_append] at HM; replace HM := Lib.hid HM)
            | (with_reducible (refine (R0.out _).mono ?_; rintro e w ⟨rfl, hb⟩; replace HM := Lib.hid (HM.out.next hb); clear hb))
            | (with_reducible (refine (R1.out _).mono ?_; rintro e w ⟨ao, c, rfl, hi, hf, hb⟩; have HF := Lib.hid (fun (q : Addr) (hq : ao = some q) => Nat.lt_of_lt_of_le (HM.out.at 0 rfl).lt (hf q hq)); have HL := Lib.hid (HM.out.old _ (List.mem_singleton.2 rfl)); replace HM := Lib.hid (HM.out.next hb); clear hb hf; have HI := Lib.hid hi; clear hi))
            | (with_reducible (refine (R2.out _).mono ?_; rintro e w ⟨rfl, hb⟩; replace HM := Lib.hid (HM.out.next hb); replace HI := Lib.hid (HI.out.below hb); clear hb))
            | (with_reducible refine (RE.out _).mono ?_; rintro e w ⟨rfl, rfl⟩)
            | (with_reducible refine Hold.build (t := 42) (parts := #[]) (cs := zCert) rfl rfl ?_ ?_; focus (kernel_rfl))
            | (with_reducible refine Hold.store HM.out 0 (v' := zCert) rfl rfl rfl rfl rfl (by rw [Nat.zero_add]; exact Nat.le_refl _) (Hold.lay_all rfl) (zCert_one) (by rw [zCert_len]; exact row_zCert) ?_; clear HM; intro w HM; simp only [List.set_cons_zero] at HM; replace HM := Lib.hid HM)))

          refine bodyPost_ret (Hold.resultsCT HM.out 0 rfl _ rfl rfl rfl (by rw [zCert_len]; exact row_zCert)) rfl ?_
          exact ⟨none, 0, rfl, fun h => absurd rfl h, (fun q hq => by cases hq), HM.out.below⟩

def zOut : List Value := [.slice none 0 0]
theorem zOut_len : zOut.length = 1 := rfl
theorem zOut_one : Hold.Single zOut := by simp [Hold.Single, zOut, Value.oneCell']
theorem zero_zOut : (Try.prog.info? 45).map (fun i => (i.zero, i.size)) = some (some (.agg zOut.toArray), zOut.length) := by kernel_rfl
theorem row_zOut : Hold.TyRow Try.prog 45 1 := ⟨_, Try.underlying45, rfl, by kernel_rfl⟩

set_option maxHeartbeats 3200000 in
theorem readOut_any (s : ByteArray) (V0 : List (List UInt8)) (E : Int) (w : World) (h0 : V0 = okL (fun x => x) (readOut s.data.toList)) (hE : E = errV (readOut s.data.toList)) (hs : s.size ≤ 1000000000) :
    Calls Try.prog 30 #[.string s] w fun e w' => ∃ ao c, e = .returned (.tuple #[.agg #[.slice ao V0.length c], .int .i64 E]) ∧ StrsR w' ao (tl V0) ∧ (∀ q, ao = some q → w.heap.size ≤ q.block) ∧ Below w.heap.size w w' := by
  have hsl : s.data.toList.length = s.size := rfl
  have HM := Lib.hid (Hold.Hld.start w)
  cases g0 : readAll readStr s.data.toList 0 with
  | error y =>
    have hre : readOut s.data.toList = .error y := by
      rw [readOut, whole, g0]
      rfl
    rw [hre] at hE h0
    obtain rfl : V0 = [] := h0
    obtain rfl : E = (y : Int) := hE
    have R0 := Lib.hid (fun u => RPrt.readstrs_any s 0 u [] 0 (y : Int) (by rw [g0]; rfl) (by rw [g0]; rfl) (by rw [g0]; rfl) (by omega) (by omega) hs)
    have hy : 1 ≤ y ∧ y ≤ 4 := readAll_errs _ readStr_errs _ _ _ g0
    have hne : ((y : Int) != 0) = true := by simp; omega
    have RE := Lib.hid (fun u => ended_any s 0 (y : Int) (y : Int) u (by rw [if_neg (by omega)]))
    clear hy hre g0 hsl
    go_enter Try.func30, Try.ntmps30
    go_wp2_with ((first
      | (with_reducible refine Hold.alloc HM.out rfl rfl zOut zero_zOut ?_; clear HM; intro b0 w HM; simp only [List.nil_append] at HM; replace HM := Lib.hid HM)
      | (with_reducible (refine (R0.out _).mono ?_; rintro e w ⟨ao, c, rfl, hi, hf, hb⟩; have HF := Lib.hid (fun (q : Addr) (hq : ao = some q) => Nat.lt_of_lt_of_le (HM.out.at 0 rfl).lt (hf q hq)); have HL := Lib.hid (HM.out.old _ (List.mem_singleton.2 rfl)); replace HM := Lib.hid (HM.out.next hb); clear hb hf; have HI := Lib.hid hi; clear hi))
      | (with_reducible refine (RE.out _).mono ?_; rintro e w ⟨rfl, rfl⟩)
      | (with_reducible refine Hold.build (t := 45) (parts := #[]) (cs := zOut) rfl rfl ?_ ?_; focus (kernel_rfl))
      | (with_reducible refine Hold.store HM.out 0 (v' := zOut) rfl rfl rfl rfl rfl (by rw [Nat.zero_add]; exact Nat.le_refl _) (Hold.lay_all rfl) (zOut_one) (by rw [zOut_len]; exact row_zOut) ?_; clear HM; intro w HM; simp only [List.set_cons_zero] at HM; replace HM := Lib.hid HM)))

    refine bodyPost_ret (Hold.resultsCT HM.out 0 rfl _ rfl rfl rfl (by rw [zOut_len]; exact row_zOut)) rfl ?_
    exact ⟨none, 0, rfl, fun h => absurd rfl h, (fun q hq => by cases hq), HM.out.below⟩
  | ok r0 =>
    obtain ⟨x0, p0⟩ := r0
    have q0 : p0 ≤ s.size := ((listC strC).rl s.data.toList 0 p0 x0 (by rw [Int.natCast_zero]; exact g0)).2.2
    have R0 := Lib.hid (fun u => RPrt.readstrs_any s 0 u x0 (p0 : Int) 0 (by rw [g0]; rfl) (by rw [g0]; rfl) (by rw [g0]; rfl) (by omega) (by omega) hs)
    have hne : ((0 : Int) != 0) = false := by simp
    by_cases hq : p0 = s.size
    · subst hq
      have hre : readOut s.data.toList = .ok x0 := by
        rw [readOut, whole, g0]
        exact ends_ok _ _
      rw [hre] at hE h0
      obtain rfl : V0 = x0 := h0
      obtain rfl : E = 0 := hE
      have RE := Lib.hid (fun u => ended_any s (s.size : Int) 0 0 u (by rw [if_neg (by omega)]))
      obtain ⟨M, hM⟩ : ∃ M, M = V0.length := ⟨_, rfl⟩
      rw [← hM] at R0 ⊢
      clear hM
      clear hre g0 hsl
      go_enter Try.func30, Try.ntmps30
      go_wp2_with ((first
        | (with_reducible refine Hold.alloc HM.out rfl rfl zOut zero_zOut ?_; clear HM; intro b0 w HM; simp only [List.nil_append] at HM; replace HM := Lib.hid HM)
        | (with_reducible (refine (R0.out _).mono ?_; rintro e w ⟨ao, c, rfl, hi, hf, hb⟩; have HF := Lib.hid (fun (q : Addr) (hq : ao = some q) => Nat.lt_of_lt_of_le (HM.out.at 0 rfl).lt (hf q hq)); have HL := Lib.hid (HM.out.old _ (List.mem_singleton.2 rfl)); replace HM := Lib.hid (HM.out.next hb); clear hb hf; have HI := Lib.hid hi; clear hi))
        | (with_reducible refine (RE.out _).mono ?_; rintro e w ⟨rfl, rfl⟩)
        | (refine Hold.store_k HM.out 0 (v' := [.slice ao M c]) rfl rfl rfl rfl rfl (by simp [zOut_len]) (Hold.lay_all rfl) (by simp [Hold.Single, Value.oneCell']) row_zOut ?_; clear HM; intro wn hw HM; simp only [List.set_cons_zero] at HM; replace HM := Lib.hid HM; have HI2 := Lib.hid (show StrsR wn ao (tl V0) from by rw [hw]; exact Hold.strs_sets HI.out _ b0 0 (fun q hq => Nat.ne_of_gt (HF.out q hq))); clear hw HI)))

      refine bodyPost_ret (Hold.resultsCT HM.out 0 rfl _ rfl rfl rfl row_zOut) rfl ?_
      exact ⟨ao, c, rfl, HI2.out, (fun q hq => Nat.le_trans HL.out (Nat.le_of_lt (HF.out q hq))), HM.out.below⟩
    · have hre : readOut s.data.toList = .error 3 := by
        rw [readOut, whole, g0]
        exact ends_left _ _ _ (fun h => hq (h.trans hsl))
      rw [hre] at hE h0
      obtain rfl : V0 = [] := h0
      obtain rfl : E = (3 : Int) := hE
      have RE := Lib.hid (fun u => ended_any s (p0 : Int) 0 3 u (by rw [if_pos ⟨rfl, by omega⟩]))
      have hne3 : ((3 : Int) != 0) = true := by simp
      clear hre hq g0 hsl
      go_enter Try.func30, Try.ntmps30
      go_wp2_with ((first
        | (with_reducible refine Hold.alloc HM.out rfl rfl zOut zero_zOut ?_; clear HM; intro b0 w HM; simp only [List.nil_append] at HM; replace HM := Lib.hid HM)
        | (with_reducible (refine (R0.out _).mono ?_; rintro e w ⟨ao, c, rfl, hi, hf, hb⟩; have HF := Lib.hid (fun (q : Addr) (hq : ao = some q) => Nat.lt_of_lt_of_le (HM.out.at 0 rfl).lt (hf q hq)); have HL := Lib.hid (HM.out.old _ (List.mem_singleton.2 rfl)); replace HM := Lib.hid (HM.out.next hb); clear hb hf; have HI := Lib.hid hi; clear hi))
        | (with_reducible refine (RE.out _).mono ?_; rintro e w ⟨rfl, rfl⟩)
        | (with_reducible refine Hold.build (t := 45) (parts := #[]) (cs := zOut) rfl rfl ?_ ?_; focus (kernel_rfl))
        | (with_reducible refine Hold.store HM.out 0 (v' := zOut) rfl rfl rfl rfl rfl (by rw [Nat.zero_add]; exact Nat.le_refl _) (Hold.lay_all rfl) (zOut_one) (by rw [zOut_len]; exact row_zOut) ?_; clear HM; intro w HM; simp only [List.set_cons_zero] at HM; replace HM := Lib.hid HM)))

      refine bodyPost_ret (Hold.resultsCT HM.out 0 rfl _ rfl rfl rfl (by rw [zOut_len]; exact row_zOut)) rfl ?_
      exact ⟨none, 0, rfl, fun h => absurd rfl h, (fun q hq => by cases hq), HM.out.below⟩

end Go.Proofs.Ytlinpbmglcjkkaa.RLet
