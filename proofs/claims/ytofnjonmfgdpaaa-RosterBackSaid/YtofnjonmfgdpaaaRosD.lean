/-
  only of package roster, at whatever test: those of a list that are to be kept. Conditions: no list has more than 1000 numbers; the test answers at each number of the list in every later world, and leaves all memory that was there as it was.
-/
import Derived.Test.YtofnjonmfgdpaaaRosC
import Derived.Shelf.Abstract
namespace Go.Proofs.Ytofnjonmfgdpaaa.Ros
open Go.RowKit Mur Prt Go.Maps
set_option maxRecDepth 100000

theorem keep_next (p : Int → Bool) (l : List Int) (j : Nat) (x : Int) (h : l[j]? = some x) : (l.take (j + 1)).filter p = (l.take j).filter p ++ if p x = true then [x] else [] := by
  rw [List.take_add_one, h, List.filter_append, show (some x).toList = [x] from rfl, List.filter_cons, List.filter_nil]

set_option maxHeartbeats 1600000 in
theorem only_any (l : List Int) (p : Int → Bool) (kf : Nat) (caps : Array Value) (n : Nat) (a : Option Addr) (c : Nat) (w : World) (hn : l.length = n) (hn2 : n ≤ 1000) (ha : IntsR w a l) (hE : Enters Try.prog kf)
    (hk : ∀ x ∈ l, ∀ u, Below w.heap.size w u → Calls Try.prog kf (#[.int .i64 x] ++ caps) u fun e w' => e = .returned (.bool (p x)) ∧ Below u.heap.size u w') :
    Calls Try.prog 24 #[.slice a n c, .func (.func kf) #[] caps] w fun e w' => ∃ ao co, e = .returned (.slice ao (l.filter p).length co) ∧ IntsR w' ao (l.filter p) ∧ (∀ q, ao = some q → w.heap.size ≤ q.block) ∧ Below w.heap.size w w' := by
  have HA := Lib.hid ha
  have HN := Lib.hid hn
  have HK := Lib.hid hk
  clear ha hn hk
  go_enter Try.func24, Try.ntmps24
  go_upto_region 2 with (fail)
  have hown := own_new w w.heap.size (Nat.le_refl _)
  have HB := Lib.hid ((Below.refl w.heap.size w).alloc (Nat.le_refl _) (.cells #[] 3))
  generalize w.alloc (.cells #[] 3) = w2 at *
  go_wp2
  have HOWN := Lib.hid hown
  clear hown
  go_loopw [5, 11] (fun ov i wr => ∃ j : Nat, j ≤ n ∧ i = .int .i64 j ∧ wr.ownsRow w.heap.size 3 1 ov ((l.take j).filter p).length (zsV ((l.take j).filter p)) ∧ Below w.heap.size w wr) (fun _ i _ => n - (intOf i).toNat)
  case atStart => exact ⟨0, by omega, rfl, HOWN.out, HB.out⟩
  case round =>
    clear HOWN HB
    obtain ⟨j, hj, rfl, hown, hbel⟩ := hrel
    have HW := Lib.hid hbel
    have HOWN := Lib.hid hown
    have hfr := hown.lt
    obtain ⟨ao, co, rfl, -, hi⟩ := own_ints hown
    have HI := Lib.hid hi
    have HF := Lib.hid (show ∀ q, ao = some q → w.heap.size ≤ q.block from fun q hq => (hfr q.block (by rw [hq]; rfl)).1)
    clear hown hbel hi hfr
    by_cases hlt : j < n
    · obtain ⟨g, o, rfl, hg, hgc⟩ := HA.out (by have := HN.out; omega)
      have hjl : j < l.length := by have := HN.out; omega
      obtain ⟨x, hx⟩ : ∃ x, l[j]? = some x := ⟨_, List.getElem?_eq_getElem hjl⟩
      have c1 := (HW.out.cell (p := ⟨g, o + j, none⟩) hg).trans (hgc j x hx)
      have R1 := Lib.hid (HK.out x (List.mem_of_getElem? hx) wr HW.out)
      have hnx := keep_next p l j x hx
      have hlen : ((l.take j).filter p).length ≤ 1000 := Nat.le_trans (List.length_filter_le _ _) (by rw [List.length_take]; omega)
      have HLEN := Lib.hid hlen
      have he : ∀ u, (callFunc kf (#[.int .i64 x] ++ caps)).run Try.prog u = .ok (.enter kf (#[.int .i64 x] ++ caps)) u := fun u => hE _ u
      clear hjl hx hg hgc hlen
      go_wp2_with fail
      clear he
      refine R1.out.mono ?_
      rintro e w3 ⟨rfl, hb3⟩
      have HW3 := Lib.hid (HW.out.trans (hb3.mono HW.out.size))
      have HOWN3 := Lib.hid (Strs.own_below HOWN.out hb3)
      clear hb3 R1 c1
      cases hp : p x with
      | false =>
        rw [hp, if_neg (by simp), List.append_nil] at hnx
        have HNX := Lib.hid hnx
        clear hnx hp
        go_wp2
        go_roundw
        case rel => exact ⟨j + 1, by omega, by go_num, by rw [HNX.out]; exact HOWN3.out, HW3.out⟩
        case measure => simp [intOf]; omega
      | true =>
        rw [hp, if_pos rfl] at hnx
        have HNX := Lib.hid hnx
        clear hnx hp
        go_wp2_with (at_builtin; refine append_zs rfl _ _ rfl w.heap.size _ _ ((l.take j).filter p) [x] _ 1 1 rfl rfl (HOWN3.out.alloc _) (new_z _ _ _) rfl (by have := HLEN.out; omega) (Nat.le_trans HW3.out.size (by simp)) ?_; intro v' w4 hown4 hgrow4)
        go_roundw
        case rel => exact ⟨j + 1, by omega, by go_num, by rw [HNX.out, List.length_append]; exact hown4, (HW3.out.alloc HW3.out.size _).grown hgrow4 (Nat.le_trans HW3.out.size (by simp)) (fun q hq => (HOWN3.out.lt q hq).1)⟩
        case measure => simp [intOf]; omega
    · obtain rfl : j = n := by omega
      have ht : l.take j = l := List.take_of_length_le (by have := HN.out; omega)
      have HT := Lib.hid ht
      clear ht
      rw [HT.out] at HI
      go_wp2
      go_ret
      exact ⟨ao, co, by show Ending.returned (Value.slice ao _ co) = _; rw [HT.out], HI.out, HF.out, HW.out⟩
end Go.Proofs.Ytofnjonmfgdpaaa.Ros
