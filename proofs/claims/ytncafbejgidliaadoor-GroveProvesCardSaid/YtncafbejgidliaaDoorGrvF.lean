/-
  rising of package grove answers whether numbers rise, below a power of 2, and there are some. Conditions: those that it names.
-/
import Derived.Test.YtncafbejgidliaaDoorGrvE
import Derived.Test.YtncafbejgidliaaDoorIntA
namespace Go.Proofs.YtncafbejgidliaaDoor.Grv
open Go.RowKit Mur Sha Chn
set_option maxRecDepth 100000

/-- A slice of numbers, as it is read. -/
def IntsR (w : World) (a : Option Addr) (l : List Int) : Prop := l.length ≠ 0 → ∃ b o, a = some ⟨b, o, none⟩ ∧ b < w.heap.size ∧ ∀ i x, l[i]? = some x → w.cell? ⟨b, o + i, none⟩ = some (.int .i64 x)
theorem IntsR.below {w w' : World} {a : Option Addr} {l : List Int} (h : IntsR w a l) (k : Below w.heap.size w w') : IntsR w' a l := fun hl => by
  obtain ⟨b, o, ha, hb, hc⟩ := h hl
  exact ⟨b, o, ha, Nat.lt_of_lt_of_le hb k.size, fun i x hx => (k.cell (p := ⟨b, o + i, none⟩) hb).trans (hc i x hx)⟩
/-- Numbers without a sign, as they are read. -/
def zl (l : List Nat) : List Int := l.map fun n : Nat => (n : Int)
theorem zl_length (l : List Nat) : (zl l).length = l.length := by simp [zl]
theorem zl_at {l : List Nat} {i x : Nat} (h : l[i]? = some x) : (zl l)[i]? = some (x : Int) := by simp [zl, h]

/-- They rise from m on, below p. -/
def okI (p : Int) : Int → List Int → Bool
  | _, [] => true
  | m, x :: l => decide (m ≤ x) && decide (x < p) && okI p (x + 1) l
theorem okI_nat (p : Int) (l : List Int) : ∀ m : Int, 0 ≤ m → okI p m l = true → ∃ ns : List Nat, l = zl ns ∧ Up ns ∧ (∀ n ∈ ns, (n : Int) < p) ∧ ∀ n ∈ ns, m ≤ (n : Int) := by
  induction l with
  | nil => exact fun m _ _ => ⟨[], rfl, List.Pairwise.nil, fun n hn => (by cases hn), fun n hn => (by cases hn)⟩
  | cons x l ih =>
    intro m hm h
    simp only [okI, Bool.and_eq_true, decide_eq_true_eq] at h
    obtain ⟨ns, rfl, h1, h2, h3⟩ := ih (x + 1) (by omega) h.2
    refine ⟨x.toNat :: ns, ?_, List.pairwise_cons.2 ⟨fun n hn => ?_, h1⟩, fun n hn => ?_, fun n hn => ?_⟩
    · simp only [zl, List.map_cons]
      rw [Int.toNat_of_nonneg (by omega)]
    · have := h3 n hn
      omega
    · rcases List.mem_cons.1 hn with rfl | hn
      · omega
      · exact h2 n hn
    · rcases List.mem_cons.1 hn with rfl | hn
      · omega
      · have := h3 n hn
        omega
theorem okI_zl (p : Int) (ns : List Nat) : ∀ m : Int, Up ns → (∀ n ∈ ns, (n : Int) < p) → (∀ n ∈ ns, m ≤ (n : Int)) → okI p m (zl ns) = true := by
  induction ns with
  | nil => exact fun m _ _ _ => rfl
  | cons n ns ih =>
    intro m hu hp hm
    have h := List.pairwise_cons.1 hu
    show okI p m ((n : Int) :: zl ns) = true
    simp only [okI, Bool.and_eq_true, decide_eq_true_eq]
    exact ⟨⟨hm n (by simp), hp n (by simp)⟩, ih _ h.2 (fun k hk => hp k (by simp [hk])) (fun k hk => by have := h.1 k hk; omega)⟩
def okL (p : Int) (l : List Int) : Bool := okI p 0 l && decide (0 < l.length)

set_option maxHeartbeats 1600000 in
theorem rising_any (zs : List Int) (n : Nat) (a : Option Addr) (cap k : Nat) (V : Bool) (w : World) (hr : IntsR w a zs) (hn : zs.length = n) (hn2 : n ≤ 1000000) (hk : k ≤ 62) (hV : V = okL (2 ^ k) zs) :
    Calls Tryd.prog 34 #[.slice a n cap, .int .i64 (k : Int)] w fun e w' => e = .returned (.bool V) ∧ Below w.heap.size w w' := by
  have hp1 := pow_small k hk
  have hp2 := pow_pos' k
  have RA := Lib.hid (fun (x : Int) (u : World) => among_any x k hk u)
  obtain ⟨p, hp⟩ : ∃ p : Int, p = 2 ^ k := ⟨_, rfl⟩
  rw [← hp] at RA hV hp1 hp2
  have HR := Lib.hid hr
  have HN := Lib.hid hn
  have HV := Lib.hid hV
  clear hr hn hV hp
  go_enter Tryd.func34, Tryd.ntmps34
  go_wp2_with fail
  go_loopw [5, 7, 10] (fun m _ i wr => ∃ (j : Nat) (l : Int), j ≤ n ∧ i = .int .i64 j ∧ m = .int .i64 l ∧ 0 ≤ l ∧ l ≤ p ∧ okI p 0 zs = okI p l (zs.drop j) ∧ Below w.heap.size w wr) (fun _ _ i _ => n - (intOf i).toNat)
  case atStart => exact ⟨0, 0, by omega, rfl, rfl, by omega, by omega, rfl, Below.refl _ _⟩
  case round =>
    obtain ⟨j, l, hj, rfl, rfl, hl0, hlp, hok, hbel⟩ := hrel
    have HW := Lib.hid hbel
    have HOK := Lib.hid hok
    clear hbel hok
    by_cases hlt : j < n
    · obtain ⟨b, o, rfl, hb, hc⟩ := HR.out (by have := HN.out; omega)
      have hjz : j < zs.length := by rw [HN.out]; exact hlt
      obtain ⟨x, hx⟩ : ∃ x, x = zs[j] := ⟨_, rfl⟩
      have hcc := (HW.out.cell (p := ⟨b, o + j, none⟩) hb).trans (hc j x (by rw [hx]; exact List.getElem?_eq_getElem hjz))
      have hdrop : zs.drop j = x :: zs.drop (j + 1) := by rw [List.drop_eq_getElem_cons hjz, hx]
      have hok := HOK.out
      rw [hdrop, okI] at hok
      have HOK2 := Lib.hid hok
      clear hok hdrop hx hc hjz
      by_cases h1 : x < l
      · have hd1 : decide (x < l) = true := by simp [h1]
        have hV : V = false := by rw [HV.out, okL, HOK2.out, decide_eq_false (show ¬ l ≤ x by omega)]; rfl
        subst hV
        go_wp2
        go_ret
        exact ⟨rfl, HW.out⟩
      · have hd1 : decide (x < l) = false := by simp; omega
        by_cases h2 : x < p
        · have RA1 := Lib.hid (show ∀ u, Calls Tryd.prog 20 #[.int .i64 x, .int .i64 (k : Int)] u fun e w' => e = .returned (.bool true) ∧ Below u.heap.size u w' from fun u => by
            have g := RA.out x u
            rw [decide_eq_true (show 0 ≤ x ∧ x < p from ⟨by omega, h2⟩)] at g
            exact g)
          have hok : okI p 0 zs = okI p (x + 1) (zs.drop (j + 1)) := by
            rw [HOK2.out, decide_eq_true (show l ≤ x by omega), decide_eq_true h2]
            rfl
          have HOK3 := Lib.hid hok
          clear hok
          go_wp2_with fail
          refine (RA1.out _).mono ?_
          rintro e w2 ⟨rfl, hb2⟩
          have HW2 := Lib.hid (HW.out.trans (hb2.mono HW.out.size))
          clear hb2 hcc
          go_wp2
          go_roundw
          case rel => exact ⟨j + 1, x + 1, by omega, by go_num, rfl, by omega, by omega, HOK3.out, HW2.out⟩
          case measure => simp [intOf]; omega
        · have RA1 := Lib.hid (show ∀ u, Calls Tryd.prog 20 #[.int .i64 x, .int .i64 (k : Int)] u fun e w' => e = .returned (.bool false) ∧ Below u.heap.size u w' from fun u => by
            have g := RA.out x u
            rw [decide_eq_false (show ¬ (0 ≤ x ∧ x < p) from fun h => h2 h.2)] at g
            exact g)
          have hV : V = false := by rw [HV.out, okL, HOK2.out, decide_eq_false h2, Bool.and_false, Bool.false_and, Bool.false_and]
          subst hV
          go_wp2_with fail
          refine (RA1.out _).mono ?_
          rintro e w2 ⟨rfl, hb2⟩
          have HW2 := Lib.hid (HW.out.trans (hb2.mono HW.out.size))
          clear hb2 hcc
          go_wp2
          go_ret
          exact ⟨rfl, HW2.out⟩
    · obtain rfl : j = n := by omega
      have hV : V = decide (0 < j) := by
        rw [HV.out, okL, HOK.out, List.drop_eq_nil_of_le (by rw [HN.out]; exact Nat.le_refl _), HN.out]
        rfl
      subst hV
      go_wp2
      go_ret
      exact ⟨by simp, HW.out⟩
end Go.Proofs.YtncafbejgidliaaDoor.Grv
