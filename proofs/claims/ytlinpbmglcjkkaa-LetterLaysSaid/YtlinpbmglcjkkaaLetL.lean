/-
  The statements' helpers laid and pledged of layer 14 answer true, where the code lays as the document does. Conditions: those that each lemma names.
-/
import Derived.Test.YtlinpbmglcjkkaaLetW
import Derived.Test.YtlinpbmglcjkkaaLetN
namespace Go.Proofs.Ytlinpbmglcjkkaa.LetL
open Go.RowKit Mur Prt Lanes Cod Let
open RLet (okB okL okN)
open Ros (glue)
set_option maxRecDepth 100000

set_option maxHeartbeats 1600000 in
theorem laid_any (v : Value) (k : Int) (X : ByteArray) (E : Int) (w : World) (hL : ∀ u, Below w.heap.size w u → Calls Try.prog 35 #[v] u fun e w' => e = .returned (.tuple #[.string X, .int .i64 E]) ∧ Below u.heap.size u w') (hK : ∀ u, Below w.heap.size w u → Calls Try.prog 34 #[v] u fun e w' => e = .returned (.int .i64 k) ∧ Below u.heap.size u w') :
    Calls Try.prog 15 #[v, .int .i64 k, .string X, .int .i64 E] w fun e w' => e = .returned (.bool true) ∧ Below w.heap.size w w' := by
  have R1 := Lib.hid hL
  have R2 := Lib.hid hK
  clear hL hK
  go_enter Try.func15, Try.ntmps15
  go_wp2_with fail
  refine (R1.out _ (Below.refl _ _)).mono ?_
  rintro e w1 ⟨rfl, hb1⟩
  have HB := Lib.hid hb1
  clear hb1
  go_wp2_with fail
  refine (R2.out _ HB.out).mono ?_
  rintro e w2 ⟨rfl, hb2⟩
  replace HB := Lib.hid (HB.out.trans (hb2.mono HB.out.size))
  clear hb2
  go_wp2
  go_ret
  exact ⟨by simp, HB.out⟩

set_option maxHeartbeats 3200000 in
theorem pledged_any (s : ByteArray) (zs : List ByteArray) (n : Nat) (a : Option Addr) (cap : Nat) (X : ByteArray) (E : Int) (w : World) (hX : X = layX (layPledge s.data.toList)) (hE : E = errV (layPledge s.data.toList)) (hr : StrsR w a zs) (hn : zs.length = n) (hn2 : n ≤ 1000000) (hz : ∀ z ∈ zs, z.size ≤ 9223372036854775807) (h1 : s.size ≤ 9223372036854775807) :
    Calls Try.prog 18 #[.string s, .slice a n cap, .string X, .int .i64 E] w fun e w' => e = .returned (.bool true) ∧ Below w.heap.size w w' := by
  obtain ⟨B, hB⟩ : ∃ V, V = layX (glue (str s.data.toList) (layAll strB zs)) := ⟨_, rfl⟩
  obtain ⟨F, hF⟩ : ∃ V, V = errV (glue (str s.data.toList) (layAll strB zs)) := ⟨_, rfl⟩
  obtain ⟨C, hC⟩ : ∃ V, V = layX (layCert s.data.toList [] 0) := ⟨_, rfl⟩
  obtain ⟨G, hG⟩ : ∃ V, V = errV (layCert s.data.toList [] 0) := ⟨_, rfl⟩
  obtain ⟨D, hD⟩ : ∃ V, V = layX (layAll strB zs) := ⟨_, rfl⟩
  obtain ⟨I, hI⟩ : ∃ V, V = errV (layAll strB zs) := ⟨_, rfl⟩
  have R1 := Lib.hid (fun u => LetA.layPledge_any s X E u hX hE)
  have R2 := Lib.hid (fun u (hu : Below w.heap.size w u) => LetA.layShare_any s zs n a cap B F u hB hF (hr.below hu) hn hn2 hz h1)
  have R3 := Lib.hid (fun u (hu : Below w.heap.size w u) => RLet.layShare_any s zs n a cap B F u hB hF (hr.below hu) hn hn2 hz h1)
  have R4 := Lib.hid (fun u => LetA.layCert_any s [] 0 none 0 0 C G u hC hG (fun h => absurd rfl h) rfl (by omega) (fun z hz => by cases hz) (by omega) (by omega) h1)
  have R5 := Lib.hid (fun u => RLet.layCert_any s [] 0 none 0 0 C G u hC hG (fun h => absurd rfl h) rfl (by omega) (fun z hz => by cases hz) (by omega) (by omega) h1)
  have R6 := Lib.hid (fun u (hu : Below w.heap.size w u) => LetA.layOut_any zs n a cap D I u hD hI (hr.below hu) hn hn2 hz)
  have R7 := Lib.hid (fun u (hu : Below w.heap.size w u) => RLet.layOut_any zs n a cap D I u hD hI (hr.below hu) hn hn2 hz)
  have HM := Lib.hid (Hold.Hld.start w)
  clear hX hE hB hF hC hG hD hI hr hn hz h1
  go_enter Try.func18, Try.ntmps18
  go_wp2_with ((first
    | (with_reducible refine (R1.out _).mono ?_; rintro e w ⟨rfl, hb⟩; replace HM := Lib.hid (HM.out.next hb); clear hb)
    | (with_reducible refine (R2.out _ HM.out.below).mono ?_; rintro e w ⟨rfl, hb⟩; replace HM := Lib.hid (HM.out.next hb); clear hb)
    | (with_reducible refine (R3.out _ HM.out.below).mono ?_; rintro e w ⟨rfl, hb⟩; replace HM := Lib.hid (HM.out.next hb); clear hb)
    | (with_reducible refine (R4.out _).mono ?_; rintro e w ⟨rfl, hb⟩; replace HM := Lib.hid (HM.out.next hb); clear hb)
    | (with_reducible refine (R5.out _).mono ?_; rintro e w ⟨rfl, hb⟩; replace HM := Lib.hid (HM.out.next hb); clear hb)
    | (with_reducible refine (R6.out _ HM.out.below).mono ?_; rintro e w ⟨rfl, hb⟩; replace HM := Lib.hid (HM.out.next hb); clear hb)
    | (with_reducible refine (R7.out _ HM.out.below).mono ?_; rintro e w ⟨rfl, hb⟩; replace HM := Lib.hid (HM.out.next hb); clear hb)))

  go_ret
  exact ⟨by simp, HM.out.below⟩
end Go.Proofs.Ytlinpbmglcjkkaa.LetL
