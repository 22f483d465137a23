/-
  Kind and Lay of package letter, of a value of each type: what the plain mathematics of the text Let says; all memory that was there is left as it was. Conditions: as XLetA's; a list of texts is read in memory.
-/
import Derived.Test.YtlinpbmglcjkkaaDoorKnw
namespace Go.Proofs.YtlinpbmglcjkkaaDoor.LetA
open Go.RowKit Mur Prt Lanes Cod Let
open Ros (glue)
set_option maxRecDepth 100000
set_option linter.unusedSimpArgs false

theorem field0 (x y z : Value) (w : World) : (Instr.field 53 (.agg #[x, y, z]) 0).run Tryd.prog w = .ok x w := by kernel_rfl
theorem field1 (x y z : Value) (w : World) : (Instr.field 53 (.agg #[x, y, z]) 1).run Tryd.prog w = .ok y w := by kernel_rfl
theorem field2 (x y z : Value) (w : World) : (Instr.field 53 (.agg #[x, y, z]) 2).run Tryd.prog w = .ok z w := by kernel_rfl

set_option maxHeartbeats 800000 in
theorem kindCast_any (b : ByteArray) (w : World) : Calls Tryd.prog 13 #[.iface 27 (.agg #[.string b])] w fun e w' => e = .returned (.int .i64 1) ∧ Below w.heap.size w w' := by
  have RK := Lib.hid (fun u (_ : Below w.heap.size w u) => Knw.knownCast_any b _ u rfl)
  have f0 := field0
  go_enter Tryd.func13, Tryd.ntmps13
  go_wp2_with ((first
    | (with_reducible (refine (RK.out _ (Below.refl _ _)).mono ?_; rintro e w1 ⟨g, rfl, hw, hg, hc, hb⟩; have HC := Lib.hid hc; have HB := Lib.hid hb; have HW := Lib.hid hw; clear hw hg hc hb RK))))
  go_ret
  exact ⟨rfl, HB.out⟩

set_option maxHeartbeats 800000 in
theorem layCast_all (b : ByteArray) (X : ByteArray) (E : Int) (w : World) (hX : X = layX (str b.data.toList)) (hE : E = errV (str b.data.toList)) (h1 : b.size ≤ 9223372036854775807) :
    Calls Tryd.prog 6 #[.iface 27 (.agg #[.string b])] w fun e w' => e = .returned (.tuple #[.string X, .int .i64 E]) ∧ Below w.heap.size w w' := by
  have RK := Lib.hid (fun u (_ : Below w.heap.size w u) => Knw.knownCast_any b _ u rfl)
  have RL := Lib.hid (fun g u (_ : Below w.heap.size w u) (hc : u.rangeAt g 0 [.string b]) => Knw.laysCast_any b X E g u hX hE hc h1)
  clear hX hE h1
  have f2 := field2
  go_enter Tryd.func6, Tryd.ntmps6
  go_wp2_with ((first
    | (with_reducible (refine (RK.out _ (Below.refl _ _)).mono ?_; rintro e w1 ⟨g, rfl, hw, hg, hc, hb⟩; have HC := Lib.hid hc; have HB := Lib.hid hb; have HW := Lib.hid hw; clear hw hg hc hb RK))
    | (with_reducible (refine (RL.out _ _ HB.out HC.out).mono ?_; rintro e w2 ⟨rfl, hb⟩; replace HB := Lib.hid (HB.out.trans (hb.mono HB.out.size)); clear hb))))
  go_ret2
  exact ⟨rfl, HB.out⟩

set_option maxHeartbeats 800000 in
theorem kindList_any (n : Nat) (a : Option Addr) (cap : Nat) (z : Int) (w : World) : Calls Tryd.prog 13 #[.iface 29 (.agg #[.slice a n cap, .int .i64 z])] w fun e w' => e = .returned (.int .i64 2) ∧ Below w.heap.size w w' := by
  have RK := Lib.hid (fun u (_ : Below w.heap.size w u) => Knw.knownList_any n a cap z _ u rfl)
  have f0 := field0
  go_enter Tryd.func13, Tryd.ntmps13
  go_wp2_with ((first
    | (with_reducible (refine (RK.out _ (Below.refl _ _)).mono ?_; rintro e w1 ⟨g, rfl, hw, hg, hc, hb⟩; have HC := Lib.hid hc; have HB := Lib.hid hb; have HW := Lib.hid hw; clear hw hg hc hb RK))))
  go_ret
  exact ⟨rfl, HB.out⟩

set_option maxHeartbeats 800000 in
theorem layList_all (zs : List Int) (n : Nat) (a : Option Addr) (cap : Nat) (z : Int) (X : ByteArray) (E : Int) (w : World) (hX : X = layX (layList zs z)) (hE : E = errV (layList zs z)) (hr : IntsR w a zs) (hn : zs.length = n) (hn2 : n ≤ 1000000) (hz : ∀ z ∈ zs, -9223372036854775808 ≤ z ∧ z ≤ 9223372036854775807) (h1 : -9223372036854775808 ≤ z) (h2 : z ≤ 9223372036854775807) :
    Calls Tryd.prog 6 #[.iface 29 (.agg #[.slice a n cap, .int .i64 z])] w fun e w' => e = .returned (.tuple #[.string X, .int .i64 E]) ∧ Below w.heap.size w w' := by
  have RK := Lib.hid (fun u (_ : Below w.heap.size w u) => Knw.knownList_any n a cap z _ u rfl)
  have RL := Lib.hid (fun g u (hu : Below w.heap.size w u) (hc : u.rangeAt g 0 [.slice a n cap, .int .i64 z]) => Knw.laysList_any zs n a cap z X E g u hX hE hc (hr.below hu) hn hn2 hz h1 h2)
  clear hX hE hr hn hz h1 h2
  have f2 := field2
  go_enter Tryd.func6, Tryd.ntmps6
  go_wp2_with ((first
    | (with_reducible (refine (RK.out _ (Below.refl _ _)).mono ?_; rintro e w1 ⟨g, rfl, hw, hg, hc, hb⟩; have HC := Lib.hid hc; have HB := Lib.hid hb; have HW := Lib.hid hw; clear hw hg hc hb RK))
    | (with_reducible (refine (RL.out _ _ HB.out HC.out).mono ?_; rintro e w2 ⟨rfl, hb⟩; replace HB := Lib.hid (HB.out.trans (hb.mono HB.out.size)); clear hb))))
  go_ret2
  exact ⟨rfl, HB.out⟩

set_option maxHeartbeats 800000 in
theorem kindPledge_any (d : ByteArray) (w : World) : Calls Tryd.prog 13 #[.iface 31 (.agg #[.string d])] w fun e w' => e = .returned (.int .i64 3) ∧ Below w.heap.size w w' := by
  have RK := Lib.hid (fun u (_ : Below w.heap.size w u) => Knw.knownPledge_any d _ u rfl)
  have f0 := field0
  go_enter Tryd.func13, Tryd.ntmps13
  go_wp2_with ((first
    | (with_reducible (refine (RK.out _ (Below.refl _ _)).mono ?_; rintro e w1 ⟨g, rfl, hw, hg, hc, hb⟩; have HC := Lib.hid hc; have HB := Lib.hid hb; have HW := Lib.hid hw; clear hw hg hc hb RK))))
  go_ret
  exact ⟨rfl, HB.out⟩

set_option maxHeartbeats 800000 in
theorem layPledge_all (d : ByteArray) (X : ByteArray) (E : Int) (w : World) (hX : X = layX (layPledge d.data.toList)) (hE : E = errV (layPledge d.data.toList))  :
    Calls Tryd.prog 6 #[.iface 31 (.agg #[.string d])] w fun e w' => e = .returned (.tuple #[.string X, .int .i64 E]) ∧ Below w.heap.size w w' := by
  have RK := Lib.hid (fun u (_ : Below w.heap.size w u) => Knw.knownPledge_any d _ u rfl)
  have RL := Lib.hid (fun g u (_ : Below w.heap.size w u) (hc : u.rangeAt g 0 [.string d]) => Knw.laysPledge_any d X E g u hX hE hc)
  clear hX hE 
  have f2 := field2
  go_enter Tryd.func6, Tryd.ntmps6
  go_wp2_with ((first
    | (with_reducible (refine (RK.out _ (Below.refl _ _)).mono ?_; rintro e w1 ⟨g, rfl, hw, hg, hc, hb⟩; have HC := Lib.hid hc; have HB := Lib.hid hb; have HW := Lib.hid hw; clear hw hg hc hb RK))
    | (with_reducible (refine (RL.out _ _ HB.out HC.out).mono ?_; rintro e w2 ⟨rfl, hb⟩; replace HB := Lib.hid (HB.out.trans (hb.mono HB.out.size)); clear hb))))
  go_ret2
  exact ⟨rfl, HB.out⟩

set_option maxHeartbeats 800000 in
theorem kindShare_any (b : ByteArray) (zs : List ByteArray) (n : Nat) (a : Option Addr) (cap : Nat) (w : World) (hr : StrsR w a zs) (hn : zs.length = n) (hn2 : n ≤ 1000000) : Calls Tryd.prog 13 #[.iface 33 (.agg #[.string b, .slice a n cap])] w fun e w' => e = .returned (.int .i64 4) ∧ Below w.heap.size w w' := by
  have RK := Lib.hid (fun u (hu : Below w.heap.size w u) => Knw.knownShare_any b zs n a cap _ u rfl (hr.below hu) hn hn2)
  clear hr hn
  have f0 := field0
  go_enter Tryd.func13, Tryd.ntmps13
  go_wp2_with ((first
    | (with_reducible (refine (RK.out _ (Below.refl _ _)).mono ?_; rintro e w1 ⟨g, rfl, hw, hg, hc, hb⟩; have HC := Lib.hid hc; have HB := Lib.hid hb; have HW := Lib.hid hw; clear hw hg hc hb RK))))
  go_ret
  exact ⟨rfl, HB.out⟩

set_option maxHeartbeats 800000 in
theorem layShare_all (b : ByteArray) (zs : List ByteArray) (n : Nat) (a : Option Addr) (cap : Nat) (X : ByteArray) (E : Int) (w : World) (hX : X = layX (glue (str b.data.toList) (layAll strB zs))) (hE : E = errV (glue (str b.data.toList) (layAll strB zs))) (hr : StrsR w a zs) (hn : zs.length = n) (hn2 : n ≤ 1000000) (hz : ∀ z ∈ zs, z.size ≤ 9223372036854775807) (h1 : b.size ≤ 9223372036854775807) :
    Calls Tryd.prog 6 #[.iface 33 (.agg #[.string b, .slice a n cap])] w fun e w' => e = .returned (.tuple #[.string X, .int .i64 E]) ∧ Below w.heap.size w w' := by
  have RK := Lib.hid (fun u (hu : Below w.heap.size w u) => Knw.knownShare_any b zs n a cap _ u rfl (hr.below hu) hn hn2)
  have RL := Lib.hid (fun g u (hu : Below w.heap.size w u) (hc : u.rangeAt g 0 [.string b, .slice a n cap]) => Knw.laysShare_any b zs n a cap X E g u hX hE hc (hr.below hu) hn hn2 hz h1)
  clear hX hE hr hn hz h1
  have f2 := field2
  go_enter Tryd.func6, Tryd.ntmps6
  go_wp2_with ((first
    | (with_reducible (refine (RK.out _ (Below.refl _ _)).mono ?_; rintro e w1 ⟨g, rfl, hw, hg, hc, hb⟩; have HC := Lib.hid hc; have HB := Lib.hid hb; have HW := Lib.hid hw; clear hw hg hc hb RK))
    | (with_reducible (refine (RL.out _ _ HB.out HC.out).mono ?_; rintro e w2 ⟨rfl, hb⟩; replace HB := Lib.hid (HB.out.trans (hb.mono HB.out.size)); clear hb))))
  go_ret2
  exact ⟨rfl, HB.out⟩

set_option maxHeartbeats 800000 in
theorem kindCert_any (b : ByteArray) (n : Nat) (a : Option Addr) (cap : Nat) (z : Int) (w : World) : Calls Tryd.prog 13 #[.iface 35 (.agg #[.string b, .slice a n cap, .int .i64 z])] w fun e w' => e = .returned (.int .i64 5) ∧ Below w.heap.size w w' := by
  have RK := Lib.hid (fun u (_ : Below w.heap.size w u) => Knw.knownCert_any b n a cap z _ u rfl)
  have f0 := field0
  go_enter Tryd.func13, Tryd.ntmps13
  go_wp2_with ((first
    | (with_reducible (refine (RK.out _ (Below.refl _ _)).mono ?_; rintro e w1 ⟨g, rfl, hw, hg, hc, hb⟩; have HC := Lib.hid hc; have HB := Lib.hid hb; have HW := Lib.hid hw; clear hw hg hc hb RK))))
  go_ret
  exact ⟨rfl, HB.out⟩

set_option maxHeartbeats 800000 in
theorem layCert_all (b : ByteArray) (zs : List Int) (n : Nat) (a : Option Addr) (cap : Nat) (z : Int) (X : ByteArray) (E : Int) (w : World) (hX : X = layX (layCert b.data.toList zs z)) (hE : E = errV (layCert b.data.toList zs z)) (hr : IntsR w a zs) (hn : zs.length = n) (hn2 : n ≤ 1000000) (hz : ∀ z ∈ zs, -9223372036854775808 ≤ z ∧ z ≤ 9223372036854775807) (h1 : -9223372036854775808 ≤ z) (h2 : z ≤ 9223372036854775807) (h3 : b.size ≤ 9223372036854775807) :
    Calls Tryd.prog 6 #[.iface 35 (.agg #[.string b, .slice a n cap, .int .i64 z])] w fun e w' => e = .returned (.tuple #[.string X, .int .i64 E]) ∧ Below w.heap.size w w' := by
  have RK := Lib.hid (fun u (_ : Below w.heap.size w u) => Knw.knownCert_any b n a cap z _ u rfl)
  have RL := Lib.hid (fun g u (hu : Below w.heap.size w u) (hc : u.rangeAt g 0 [.string b, .slice a n cap, .int .i64 z]) => Knw.laysCert_any b zs n a cap z X E g u hX hE hc (hr.below hu) hn hn2 hz h1 h2 h3)
  clear hX hE hr hn hz h1 h2 h3
  have f2 := field2
  go_enter Tryd.func6, Tryd.ntmps6
  go_wp2_with ((first
    | (with_reducible (refine (RK.out _ (Below.refl _ _)).mono ?_; rintro e w1 ⟨g, rfl, hw, hg, hc, hb⟩; have HC := Lib.hid hc; have HB := Lib.hid hb; have HW := Lib.hid hw; clear hw hg hc hb RK))
    | (with_reducible (refine (RL.out _ _ HB.out HC.out).mono ?_; rintro e w2 ⟨rfl, hb⟩; replace HB := Lib.hid (HB.out.trans (hb.mono HB.out.size)); clear hb))))
  go_ret2
  exact ⟨rfl, HB.out⟩

set_option maxHeartbeats 800000 in
theorem kindOut_any (zs : List ByteArray) (n : Nat) (a : Option Addr) (cap : Nat) (w : World) (hr : StrsR w a zs) (hn : zs.length = n) (hn2 : n ≤ 1000000) : Calls Tryd.prog 13 #[.iface 37 (.agg #[.slice a n cap])] w fun e w' => e = .returned (.int .i64 6) ∧ Below w.heap.size w w' := by
  have RK := Lib.hid (fun u (hu : Below w.heap.size w u) => Knw.knownOut_any zs n a cap _ u rfl (hr.below hu) hn hn2)
  clear hr hn
  have f0 := field0
  go_enter Tryd.func13, Tryd.ntmps13
  go_wp2_with ((first
    | (with_reducible (refine (RK.out _ (Below.refl _ _)).mono ?_; rintro e w1 ⟨g, rfl, hw, hg, hc, hb⟩; have HC := Lib.hid hc; have HB := Lib.hid hb; have HW := Lib.hid hw; clear hw hg hc hb RK))))
  go_ret
  exact ⟨rfl, HB.out⟩

set_option maxHeartbeats 800000 in
theorem layOut_all (zs : List ByteArray) (n : Nat) (a : Option Addr) (cap : Nat) (X : ByteArray) (E : Int) (w : World) (hX : X = layX (layAll strB zs)) (hE : E = errV (layAll strB zs)) (hr : StrsR w a zs) (hn : zs.length = n) (hn2 : n ≤ 1000000) (hz : ∀ z ∈ zs, z.size ≤ 9223372036854775807) :
    Calls Tryd.prog 6 #[.iface 37 (.agg #[.slice a n cap])] w fun e w' => e = .returned (.tuple #[.string X, .int .i64 E]) ∧ Below w.heap.size w w' := by
  have RK := Lib.hid (fun u (hu : Below w.heap.size w u) => Knw.knownOut_any zs n a cap _ u rfl (hr.below hu) hn hn2)
  have RL := Lib.hid (fun g u (hu : Below w.heap.size w u) (hc : u.rangeAt g 0 [.slice a n cap]) => Knw.laysOut_any zs n a cap X E g u hX hE hc (hr.below hu) hn hn2 hz)
  clear hX hE hr hn hz
  have f2 := field2
  go_enter Tryd.func6, Tryd.ntmps6
  go_wp2_with ((first
    | (with_reducible (refine (RK.out _ (Below.refl _ _)).mono ?_; rintro e w1 ⟨g, rfl, hw, hg, hc, hb⟩; have HC := Lib.hid hc; have HB := Lib.hid hb; have HW := Lib.hid hw; clear hw hg hc hb RK))
    | (with_reducible (refine (RL.out _ _ HB.out HC.out).mono ?_; rintro e w2 ⟨rfl, hb⟩; replace HB := Lib.hid (HB.out.trans (hb.mono HB.out.size)); clear hb))))
  go_ret2
  exact ⟨rfl, HB.out⟩

theorem kindStr_any (s : ByteArray) (w : World) : Calls Tryd.prog 13 #[.iface 9 (.string s)] w fun e w' => e = .returned (.int .i64 0) ∧ Below w.heap.size w w' := by
  have RK := Lib.hid (fun u => Knw.knownStr_any s u)
  have f0 := field0
  go_enter Tryd.func13, Tryd.ntmps13
  go_wp2_with ((first
    | (with_reducible (refine (RK.out _).mono ?_; rintro e w1 ⟨rfl, hb⟩; have HB := Lib.hid hb; clear hb))))
  go_ret
  exact ⟨rfl, HB.out⟩

theorem layStr_all (s : ByteArray) (w : World) : Calls Tryd.prog 6 #[.iface 9 (.string s)] w fun e w' => e = .returned (.tuple #[.string ⟨#[]⟩, .int .i64 1]) ∧ Below w.heap.size w w' := by
  have RK := Lib.hid (fun u => Knw.knownStr_any s u)
  have RL := Lib.hid Knw.laysNone_any
  have f2 := field2
  go_enter Tryd.func6, Tryd.ntmps6
  go_wp2_with ((first
    | (with_reducible (refine (RK.out _).mono ?_; rintro e w1 ⟨rfl, hb⟩; have HB := Lib.hid hb; clear hb))
    | (with_reducible (refine (RL.out _).mono ?_; rintro e w2 ⟨rfl, hb⟩; replace HB := Lib.hid (HB.out.trans (hb.mono HB.out.size)); clear hb))))
  go_ret2
  exact ⟨rfl, HB.out⟩

theorem kindInt_any (k : Int) (w : World) : Calls Tryd.prog 13 #[.iface 3 (.int .i64 k)] w fun e w' => e = .returned (.int .i64 0) ∧ Below w.heap.size w w' := by
  have RK := Lib.hid (fun u => Knw.knownInt_any k u)
  have f0 := field0
  go_enter Tryd.func13, Tryd.ntmps13
  go_wp2_with ((first
    | (with_reducible (refine (RK.out _).mono ?_; rintro e w1 ⟨rfl, hb⟩; have HB := Lib.hid hb; clear hb))))
  go_ret
  exact ⟨rfl, HB.out⟩

theorem layInt_all (k : Int) (w : World) : Calls Tryd.prog 6 #[.iface 3 (.int .i64 k)] w fun e w' => e = .returned (.tuple #[.string ⟨#[]⟩, .int .i64 1]) ∧ Below w.heap.size w w' := by
  have RK := Lib.hid (fun u => Knw.knownInt_any k u)
  have RL := Lib.hid Knw.laysNone_any
  have f2 := field2
  go_enter Tryd.func6, Tryd.ntmps6
  go_wp2_with ((first
    | (with_reducible (refine (RK.out _).mono ?_; rintro e w1 ⟨rfl, hb⟩; have HB := Lib.hid hb; clear hb))
    | (with_reducible (refine (RL.out _).mono ?_; rintro e w2 ⟨rfl, hb⟩; replace HB := Lib.hid (HB.out.trans (hb.mono HB.out.size)); clear hb))))
  go_ret2
  exact ⟨rfl, HB.out⟩

theorem kindNil_any (w : World) : Calls Tryd.prog 13 #[.nilIface] w fun e w' => e = .returned (.int .i64 0) ∧ Below w.heap.size w w' := by
  have RK := Lib.hid (fun u => Knw.knownNil_any u)
  have f0 := field0
  go_enter Tryd.func13, Tryd.ntmps13
  go_wp2_with ((first
    | (with_reducible (refine (RK.out _).mono ?_; rintro e w1 ⟨rfl, hb⟩; have HB := Lib.hid hb; clear hb))))
  go_ret
  exact ⟨rfl, HB.out⟩

theorem layNil_all (w : World) : Calls Tryd.prog 6 #[.nilIface] w fun e w' => e = .returned (.tuple #[.string ⟨#[]⟩, .int .i64 1]) ∧ Below w.heap.size w w' := by
  have RK := Lib.hid (fun u => Knw.knownNil_any u)
  have RL := Lib.hid Knw.laysNone_any
  have f2 := field2
  go_enter Tryd.func6, Tryd.ntmps6
  go_wp2_with ((first
    | (with_reducible (refine (RK.out _).mono ?_; rintro e w1 ⟨rfl, hb⟩; have HB := Lib.hid hb; clear hb))
    | (with_reducible (refine (RL.out _).mono ?_; rintro e w2 ⟨rfl, hb⟩; replace HB := Lib.hid (HB.out.trans (hb.mono HB.out.size)); clear hb))))
  go_ret2
  exact ⟨rfl, HB.out⟩
end Go.Proofs.YtlinpbmglcjkkaaDoor.LetA
