/-
  What package letter knows of a value (known): its kind, how long it is, and the function that lays it, of a value of each type; and those functions. All memory that was there is left as it was. Conditions: as XLetA's; a list of texts is read in memory.
-/
import Derived.Test.YtlinpbmglcjkkaaDoorKnl
import Derived.Test.YtlinpbmglcjkkaaDoorJoh
import Derived.Test.YtlinpbmglcjkkaaDoorAny
namespace Go.Proofs.YtlinpbmglcjkkaaDoor.Knw
open Go.RowKit Mur Prt Lanes Cod Let
open Ros (glue)
open RLet (cellInt cellStr cellInts cellStrs)
set_option maxRecDepth 100000
set_option linter.unusedSimpArgs false

theorem wrapEq (x : Int) : IntKind.i64.wrap x = wrap64 x := by rw [IntKind.wrap_i64, wrap64]
def zVal : List Value := [.int .i64 0, .int .i64 0, .nilFunc]
theorem zVal_len : zVal.length = 3 := rfl
theorem zero_zVal : (Tryd.prog.info? 53).map (fun i => (i.zero, i.size)) = some (some (.agg zVal.toArray), zVal.length) := by kernel_rfl
theorem row_zVal : Hold.TyRow Tryd.prog 53 3 := ⟨_, Tryd.underlying53, rfl, by kernel_rfl⟩
theorem keptS {w0 : World} {m : List Hold.Blk} {f : FuncId} {args : Array Value} {v : Value} (R : ∀ u, Below w0.heap.size w0 u → Calls Tryd.prog f args u fun e w' => e = .returned v ∧ u = w') : ∀ u, Hold.Hld w0 m u → Calls Tryd.prog f args u fun e w' => e = .returned v ∧ Hold.Hld w0 m w' := fun u h =>
  (R u h.below).mono fun _ _ ⟨he, hb⟩ => ⟨he, hb ▸ h⟩

theorem rowCast : Hold.TyRow Tryd.prog 27 1 := ⟨_, Tryd.underlying27, rfl, by kernel_rfl⟩
set_option maxHeartbeats 800000 in
theorem laysCast_any (b : ByteArray) (X : ByteArray) (E : Int) (g : Nat) (w : World) (hX : X = layX (str b.data.toList)) (hE : E = errV (str b.data.toList)) (hc : w.rangeAt g 0 [.string b]) (h1 : b.size ≤ 9223372036854775807) :
    Calls Tryd.prog 26 #[.pointer (some ⟨g, 0, none⟩)] w fun e w' => e = .returned (.tuple #[.string X, .int .i64 E]) ∧ Below w.heap.size w w' := by
  have R1 := Lib.hid (LetA.layCast_any b X E w hX hE h1)
  have c0 : w.cell? ⟨g, 0, none⟩ = some (.string b) := by have := hc 0 (.string b) rfl; simpa using this
  clear hX hE hc h1
  go_enter Tryd.func26, Tryd.ntmps26
  go_wp2_with fail
  refine R1.out.mono ?_
  rintro e w2 ⟨rfl, hb⟩
  have HB := Lib.hid hb
  clear hb
  go_wp2
  go_ret2
  exact ⟨rfl, HB.out⟩

set_option maxHeartbeats 1600000 in
theorem knownCast_any (b : ByteArray) (L : Int) (w : World) (hL : L = strL b) :
    Calls Tryd.prog 14 #[.iface 27 (.agg #[.string b])] w fun e w' => ∃ g, e = .returned (.agg #[.int .i64 1, .int .i64 L, .func (.func 26) #[] #[.pointer (some ⟨g, 0, none⟩)]]) ∧ w.heap.size ≤ g ∧ g < w'.heap.size ∧ w'.rangeAt g 0 [.string b] ∧ Below w.heap.size w w' := by
  have yCast := Any.yesCast (.agg #[.string b])
  have hmf : ∀ (fn : Fn) (first cap : Array Value) (w : World), (Instr.makeFunc fn first cap).run Tryd.prog w = .ok (.func fn first cap) w := fun _ _ _ _ => rfl
  have HM := Lib.hid (Hold.Hld.start w)
  obtain ⟨L1, hL1⟩ : ∃ L1, L1 = strL b := ⟨_, rfl⟩
  have R1 := Lib.hid (fun u => strLong_any b L1 u hL1)
  rw [← hL1] at hL
  subst hL
  clear hL1
  go_enter Tryd.func14, Tryd.ntmps14
  go_upto_region 4 with ((first
    | (with_reducible refine Hold.alloc HM.out rfl rfl zVal zero_zVal ?_; clear HM; intro b0 w HM; simp only [List.nil_append] at HM; replace HM := Lib.hid HM)))
  have hm2 := HM.out.add 27 [.string b]
  simp only [List.cons_append, List.nil_append] at hm2
  clear HM
  generalize w.alloc (.cells #[.string b] 27) = w2 at hm2 ⊢
  generalize w.heap.size = g at hm2 ⊢
  have HM := Lib.hid hm2
  clear hm2
  go_wp2_with ((first
    | (with_reducible refine Hold.load1 HM.out 1 (c := .string b) rfl rfl rfl rfl (rfl) (cellStr) ?_)
    | (with_reducible refine (R1.out _).mono ?_; rintro e w ⟨rfl, rfl⟩)
    | (with_reducible refine Hold.build (t := 53) (cs := [.int .i64 1, .int .i64 L, .func (.func 26) #[] #[.pointer (some ⟨g, 0, none⟩)]]) rfl rfl (by kernel_rfl) ?_)
    | (refine Hold.store HM.out 0 (v' := [.int .i64 1, .int .i64 L, .func (.func 26) #[] #[.pointer (some ⟨g, 0, none⟩)]]) rfl rfl rfl rfl rfl (by simp [zVal_len]) (Hold.lay_all rfl) (by simp [Hold.Single, Value.oneCell']) row_zVal ?_; clear HM; intro w HM; simp only [List.set_cons_zero] at HM; replace HM := Lib.hid HM)))
  refine bodyPost_ret (Hold.results1 HM.out 0 rfl _ rfl rfl row_zVal) rfl ?_
  exact ⟨g, rfl, HM.out.old _ (List.mem_of_getElem? (i := 1) rfl), (HM.out.at 1 rfl).lt, HM.out.range 1 rfl (Hold.Part.all _), HM.out.below⟩

theorem rowList : Hold.TyRow Tryd.prog 29 2 := ⟨_, Tryd.underlying29, rfl, by kernel_rfl⟩
set_option maxHeartbeats 800000 in
theorem laysList_any (zs : List Int) (n : Nat) (a : Option Addr) (cap : Nat) (z : Int) (X : ByteArray) (E : Int) (g : Nat) (w : World) (hX : X = layX (layList zs z)) (hE : E = errV (layList zs z)) (hc : w.rangeAt g 0 [.slice a n cap, .int .i64 z]) (hr : IntsR w a zs) (hn : zs.length = n) (hn2 : n ≤ 1000000) (hz : ∀ z ∈ zs, -9223372036854775808 ≤ z ∧ z ≤ 9223372036854775807) (h1 : -9223372036854775808 ≤ z) (h2 : z ≤ 9223372036854775807) :
    Calls Tryd.prog 29 #[.pointer (some ⟨g, 0, none⟩)] w fun e w' => e = .returned (.tuple #[.string X, .int .i64 E]) ∧ Below w.heap.size w w' := by
  have R1 := Lib.hid (LetA.layList_any zs n a cap z X E w hX hE hr hn hn2 hz h1 h2)
  have c0 : w.cell? ⟨g, 0, none⟩ = some (.slice a n cap) := by have := hc 0 (.slice a n cap) rfl; simpa using this
  have c1 : w.cell? ⟨g, 1, none⟩ = some (.int .i64 z) := by have := hc 1 (.int .i64 z) rfl; simpa using this
  clear hX hE hc hr hn hz h1 h2
  go_enter Tryd.func29, Tryd.ntmps29
  go_wp2_with fail
  refine R1.out.mono ?_
  rintro e w2 ⟨rfl, hb⟩
  have HB := Lib.hid hb
  clear hb
  go_wp2
  go_ret2
  exact ⟨rfl, HB.out⟩

set_option maxHeartbeats 1600000 in
theorem knownList_any (n : Nat) (a : Option Addr) (cap : Nat) (z : Int) (L : Int) (w : World) (hL : L = wrap64 (numsL n + 5)) :
    Calls Tryd.prog 14 #[.iface 29 (.agg #[.slice a n cap, .int .i64 z])] w fun e w' => ∃ g, e = .returned (.agg #[.int .i64 2, .int .i64 L, .func (.func 29) #[] #[.pointer (some ⟨g, 0, none⟩)]]) ∧ w.heap.size ≤ g ∧ g < w'.heap.size ∧ w'.rangeAt g 0 [.slice a n cap, .int .i64 z] ∧ Below w.heap.size w w' := by
  have yCast := Any.noCast 29 (.agg #[.slice a n cap, .int .i64 z]) (by decide)
  have yList := Any.yesList (.agg #[.slice a n cap, .int .i64 z])
  have hmf : ∀ (fn : Fn) (first cap : Array Value) (w : World), (Instr.makeFunc fn first cap).run Tryd.prog w = .ok (.func fn first cap) w := fun _ _ _ _ => rfl
  have HM := Lib.hid (Hold.Hld.start w)
  obtain ⟨L2, hL2⟩ : ∃ L2, L2 = numsL n := ⟨_, rfl⟩
  have R2 := Lib.hid (fun u => numsLong_any a n cap L2 u hL2)
  rw [← hL2] at hL
  subst hL
  clear hL2
  go_enter Tryd.func14, Tryd.ntmps14
  go_upto_region 7 with ((first
    | (with_reducible refine Hold.alloc HM.out rfl rfl zVal zero_zVal ?_; clear HM; intro b0 w HM; simp only [List.nil_append] at HM; replace HM := Lib.hid HM)))
  have hm2 := HM.out.add 29 [.slice a n cap, .int .i64 z]
  simp only [List.cons_append, List.nil_append] at hm2
  clear HM
  generalize w.alloc (.cells #[.slice a n cap, .int .i64 z] 29) = w2 at hm2 ⊢
  generalize w.heap.size = g at hm2 ⊢
  have HM := Lib.hid hm2
  clear hm2
  go_wp2_with ((first
    | (with_reducible refine Hold.load1 HM.out 1 (c := .slice a n cap) rfl rfl rfl rfl (rfl) (cellInts) ?_)
    | (with_reducible refine (R2.out _).mono ?_; rintro e w ⟨rfl, rfl⟩)
    | (with_reducible refine Hold.build (t := 53) (cs := [.int .i64 2, .int .i64 (wrap64 (L2 + 5)), .func (.func 29) #[] #[.pointer (some ⟨g, 0, none⟩)]]) rfl rfl (by kernel_rfl) ?_)
    | (refine Hold.store HM.out 0 (v' := [.int .i64 2, .int .i64 (wrap64 (L2 + 5)), .func (.func 29) #[] #[.pointer (some ⟨g, 0, none⟩)]]) rfl rfl rfl rfl rfl (by simp [zVal_len]) (Hold.lay_all rfl) (by simp [Hold.Single, Value.oneCell']) row_zVal ?_; clear HM; intro w HM; simp only [List.set_cons_zero] at HM; replace HM := Lib.hid HM)))
  refine bodyPost_ret (Hold.results1 HM.out 0 rfl _ rfl rfl row_zVal) rfl ?_
  exact ⟨g, rfl, HM.out.old _ (List.mem_of_getElem? (i := 1) rfl), (HM.out.at 1 rfl).lt, HM.out.range 1 rfl (Hold.Part.all _), HM.out.below⟩

theorem rowPledge : Hold.TyRow Tryd.prog 31 1 := ⟨_, Tryd.underlying31, rfl, by kernel_rfl⟩
set_option maxHeartbeats 800000 in
theorem laysPledge_any (d : ByteArray) (X : ByteArray) (E : Int) (g : Nat) (w : World) (hX : X = layX (layPledge d.data.toList)) (hE : E = errV (layPledge d.data.toList)) (hc : w.rangeAt g 0 [.string d])  :
    Calls Tryd.prog 31 #[.pointer (some ⟨g, 0, none⟩)] w fun e w' => e = .returned (.tuple #[.string X, .int .i64 E]) ∧ Below w.heap.size w w' := by
  have R1 := Lib.hid (LetA.layPledge_any d X E w hX hE)
  have c0 : w.cell? ⟨g, 0, none⟩ = some (.string d) := by have := hc 0 (.string d) rfl; simpa using this
  clear hX hE hc 
  go_enter Tryd.func31, Tryd.ntmps31
  go_wp2_with fail
  refine R1.out.mono ?_
  rintro e w2 ⟨rfl, hb⟩
  have HB := Lib.hid hb
  clear hb
  go_wp2
  go_ret2
  exact ⟨rfl, HB.out⟩

set_option maxHeartbeats 1600000 in
theorem knownPledge_any (d : ByteArray) (L : Int) (w : World) (hL : L = (d.size : Int)) :
    Calls Tryd.prog 14 #[.iface 31 (.agg #[.string d])] w fun e w' => ∃ g, e = .returned (.agg #[.int .i64 3, .int .i64 L, .func (.func 31) #[] #[.pointer (some ⟨g, 0, none⟩)]]) ∧ w.heap.size ≤ g ∧ g < w'.heap.size ∧ w'.rangeAt g 0 [.string d] ∧ Below w.heap.size w w' := by
  have yCast := Any.noCast 31 (.agg #[.string d]) (by decide)
  have yList := Any.noList 31 (.agg #[.string d]) (by decide)
  have yPledge := Any.yesPledge (.agg #[.string d])
  have hmf : ∀ (fn : Fn) (first cap : Array Value) (w : World), (Instr.makeFunc fn first cap).run Tryd.prog w = .ok (.func fn first cap) w := fun _ _ _ _ => rfl
  have HM := Lib.hid (Hold.Hld.start w)
  subst hL
  go_enter Tryd.func14, Tryd.ntmps14
  go_upto_region 10 with ((first
    | (with_reducible refine Hold.alloc HM.out rfl rfl zVal zero_zVal ?_; clear HM; intro b0 w HM; simp only [List.nil_append] at HM; replace HM := Lib.hid HM)))
  have hm2 := HM.out.add 31 [.string d]
  simp only [List.cons_append, List.nil_append] at hm2
  clear HM
  generalize w.alloc (.cells #[.string d] 31) = w2 at hm2 ⊢
  generalize w.heap.size = g at hm2 ⊢
  have HM := Lib.hid hm2
  clear hm2
  go_wp2_with ((first
    | (with_reducible refine Hold.load1 HM.out 1 (c := .string d) rfl rfl rfl rfl (rfl) (cellStr) ?_)
    | (with_reducible refine Hold.build (t := 53) (cs := [.int .i64 3, .int .i64 (d.size : Int), .func (.func 31) #[] #[.pointer (some ⟨g, 0, none⟩)]]) rfl rfl (by kernel_rfl) ?_)
    | (refine Hold.store HM.out 0 (v' := [.int .i64 3, .int .i64 (d.size : Int), .func (.func 31) #[] #[.pointer (some ⟨g, 0, none⟩)]]) rfl rfl rfl rfl rfl (by simp [zVal_len]) (Hold.lay_all rfl) (by simp [Hold.Single, Value.oneCell']) row_zVal ?_; clear HM; intro w HM; simp only [List.set_cons_zero] at HM; replace HM := Lib.hid HM)))
  refine bodyPost_ret (Hold.results1 HM.out 0 rfl _ rfl rfl row_zVal) rfl ?_
  exact ⟨g, rfl, HM.out.old _ (List.mem_of_getElem? (i := 1) rfl), (HM.out.at 1 rfl).lt, HM.out.range 1 rfl (Hold.Part.all _), HM.out.below⟩

theorem rowShare : Hold.TyRow Tryd.prog 33 2 := ⟨_, Tryd.underlying33, rfl, by kernel_rfl⟩
set_option maxHeartbeats 800000 in
theorem laysShare_any (b : ByteArray) (zs : List ByteArray) (n : Nat) (a : Option Addr) (cap : Nat) (X : ByteArray) (E : Int) (g : Nat) (w : World) (hX : X = layX (glue (str b.data.toList) (layAll strB zs))) (hE : E = errV (glue (str b.data.toList) (layAll strB zs))) (hc : w.rangeAt g 0 [.string b, .slice a n cap]) (hr : StrsR w a zs) (hn : zs.length = n) (hn2 : n ≤ 1000000) (hz : ∀ z ∈ zs, z.size ≤ 9223372036854775807) (h1 : b.size ≤ 9223372036854775807) :
    Calls Tryd.prog 34 #[.pointer (some ⟨g, 0, none⟩)] w fun e w' => e = .returned (.tuple #[.string X, .int .i64 E]) ∧ Below w.heap.size w w' := by
  have R1 := Lib.hid (LetA.layShare_any b zs n a cap X E w hX hE hr hn hn2 hz h1)
  have c0 : w.cell? ⟨g, 0, none⟩ = some (.string b) := by have := hc 0 (.string b) rfl; simpa using this
  have c1 : w.cell? ⟨g, 1, none⟩ = some (.slice a n cap) := by have := hc 1 (.slice a n cap) rfl; simpa using this
  clear hX hE hc hr hn hz h1
  go_enter Tryd.func34, Tryd.ntmps34
  go_wp2_with fail
  refine R1.out.mono ?_
  rintro e w2 ⟨rfl, hb⟩
  have HB := Lib.hid hb
  clear hb
  go_wp2
  go_ret2
  exact ⟨rfl, HB.out⟩

set_option maxHeartbeats 1600000 in
theorem knownShare_any (b : ByteArray) (zs : List ByteArray) (n : Nat) (a : Option Addr) (cap : Nat) (L : Int) (w : World) (hL : L = wrap64 (strL b + strsL zs)) (hr : StrsR w a zs) (hn : zs.length = n) (hn2 : n ≤ 1000000) :
    Calls Tryd.prog 14 #[.iface 33 (.agg #[.string b, .slice a n cap])] w fun e w' => ∃ g, e = .returned (.agg #[.int .i64 4, .int .i64 L, .func (.func 34) #[] #[.pointer (some ⟨g, 0, none⟩)]]) ∧ w.heap.size ≤ g ∧ g < w'.heap.size ∧ w'.rangeAt g 0 [.string b, .slice a n cap] ∧ Below w.heap.size w w' := by
  have yCast := Any.noCast 33 (.agg #[.string b, .slice a n cap]) (by decide)
  have yList := Any.noList 33 (.agg #[.string b, .slice a n cap]) (by decide)
  have yPledge := Any.noPledge 33 (.agg #[.string b, .slice a n cap]) (by decide)
  have yShare := Any.yesShare (.agg #[.string b, .slice a n cap])
  have hmf : ∀ (fn : Fn) (first cap : Array Value) (w : World), (Instr.makeFunc fn first cap).run Tryd.prog w = .ok (.func fn first cap) w := fun _ _ _ _ => rfl
  have HM := Lib.hid (Hold.Hld.start w)
  obtain ⟨L1, hL1⟩ : ∃ L1, L1 = strL b := ⟨_, rfl⟩
  have R1 := Lib.hid (fun u => strLong_any b L1 u hL1)
  obtain ⟨L2, hL2⟩ : ∃ L2, L2 = strsL zs := ⟨_, rfl⟩
  have R2 := Lib.hid (fun u (hu : Below w.heap.size w u) => strsLong_any zs n a cap L2 u hL2 (hr.below hu) hn hn2)
  rw [← hL1, ← hL2] at hL
  subst hL
  clear hL1 hL2 hr hn
  go_enter Tryd.func14, Tryd.ntmps14
  go_upto_region 13 with ((first
    | (with_reducible refine Hold.alloc HM.out rfl rfl zVal zero_zVal ?_; clear HM; intro b0 w HM; simp only [List.nil_append] at HM; replace HM := Lib.hid HM)))
  have hm2 := HM.out.add 33 [.string b, .slice a n cap]
  simp only [List.cons_append, List.nil_append] at hm2
  clear HM
  generalize w.alloc (.cells #[.string b, .slice a n cap] 33) = w2 at hm2 ⊢
  generalize w.heap.size = g at hm2 ⊢
  have HM := Lib.hid hm2
  clear hm2
  refine Steady.region 9 (by kernel_rfl) (by kernel_rfl) (fun u => Hold.Hld _ _ u) HM.out.drew ?_
  simp only [List.take_succ_cons, List.take_zero, List.drop_succ_cons, List.drop_zero]
  refine Steady.take ?_ rfl (by intro u hu; go_simp; with_reducible rfl) ?_
  simp only [Act.put, List.setIfInBounds_toArray, List.set_cons_zero, List.set_cons_succ]
  refine Steady.take (.string b) rfl (fun u hu => Hold.load1_run hu 1 rfl rfl rfl (rfl) (cellStr)) ?_
  simp only [Act.put, List.setIfInBounds_toArray, List.set_cons_zero, List.set_cons_succ]
  refine Steady.call _ _ _ rfl ?_ (Steady.same R1.out) ?_
  · intro u
    go_simp
  simp only [Act.put, List.setIfInBounds_toArray, List.set_cons_zero, List.set_cons_succ]
  refine Steady.take ?_ rfl (by intro u hu; go_simp; with_reducible rfl) ?_
  simp only [Act.put, List.setIfInBounds_toArray, List.set_cons_zero, List.set_cons_succ]
  refine Steady.take (.slice a n cap) rfl (fun u hu => Hold.load1_run hu 1 rfl rfl rfl (rfl) (cellStrs)) ?_
  simp only [Act.put, List.setIfInBounds_toArray, List.set_cons_zero, List.set_cons_succ]
  refine Steady.call _ _ _ rfl ?_ (keptS R2.out) ?_
  · intro u
    go_simp
  simp only [Act.put, List.setIfInBounds_toArray, List.set_cons_zero, List.set_cons_succ]
  refine Steady.take (.int .i64 (wrap64 (L1 + L2))) rfl (fun u hu => by go_simp; rw [wrapEq]) ?_
  simp only [Act.put, List.setIfInBounds_toArray, List.set_cons_zero, List.set_cons_succ]
  refine Steady.take ?_ rfl (by intro u hu; go_simp; with_reducible rfl) ?_
  simp only [Act.put, List.setIfInBounds_toArray, List.set_cons_zero, List.set_cons_succ]
  refine Steady.take (.agg ([.int .i64 4, .int .i64 (wrap64 (L1 + L2)), .func (.func 34) #[] #[.pointer (some ⟨g, 0, none⟩)]]).toArray) rfl (fun u hu => Hold.build_run rfl (by kernel_rfl)) ?_
  simp only [Act.put, List.setIfInBounds_toArray, List.set_cons_zero, List.set_cons_succ]
  refine Steady.nil ?_
  clear HM
  intro w HM
  replace HM := Lib.hid HM
  go_wp2_with ((first
    | (refine Hold.store HM.out 0 (v' := [.int .i64 4, .int .i64 (wrap64 (L1 + L2)), .func (.func 34) #[] #[.pointer (some ⟨g, 0, none⟩)]]) rfl rfl rfl rfl rfl (by simp [zVal_len]) (Hold.lay_all rfl) (by simp [Hold.Single, Value.oneCell']) row_zVal ?_; clear HM; intro w HM; simp only [List.set_cons_zero] at HM; replace HM := Lib.hid HM)))
  refine bodyPost_ret (Hold.results1 HM.out 0 rfl _ rfl rfl row_zVal) rfl ?_
  exact ⟨g, rfl, HM.out.old _ (List.mem_of_getElem? (i := 1) rfl), (HM.out.at 1 rfl).lt, HM.out.range 1 rfl (Hold.Part.all _), HM.out.below⟩

theorem rowCert : Hold.TyRow Tryd.prog 35 3 := ⟨_, Tryd.underlying35, rfl, by kernel_rfl⟩
set_option maxHeartbeats 800000 in
theorem laysCert_any (b : ByteArray) (zs : List Int) (n : Nat) (a : Option Addr) (cap : Nat) (z : Int) (X : ByteArray) (E : Int) (g : Nat) (w : World) (hX : X = layX (layCert b.data.toList zs z)) (hE : E = errV (layCert b.data.toList zs z)) (hc : w.rangeAt g 0 [.string b, .slice a n cap, .int .i64 z]) (hr : IntsR w a zs) (hn : zs.length = n) (hn2 : n ≤ 1000000) (hz : ∀ z ∈ zs, -9223372036854775808 ≤ z ∧ z ≤ 9223372036854775807) (h1 : -9223372036854775808 ≤ z) (h2 : z ≤ 9223372036854775807) (h3 : b.size ≤ 9223372036854775807) :
    Calls Tryd.prog 36 #[.pointer (some ⟨g, 0, none⟩)] w fun e w' => e = .returned (.tuple #[.string X, .int .i64 E]) ∧ Below w.heap.size w w' := by
  have R1 := Lib.hid (LetA.layCert_any b zs n a cap z X E w hX hE hr hn hn2 hz h1 h2 h3)
  have c0 : w.cell? ⟨g, 0, none⟩ = some (.string b) := by have := hc 0 (.string b) rfl; simpa using this
  have c1 : w.cell? ⟨g, 1, none⟩ = some (.slice a n cap) := by have := hc 1 (.slice a n cap) rfl; simpa using this
  have c2 : w.cell? ⟨g, 2, none⟩ = some (.int .i64 z) := by have := hc 2 (.int .i64 z) rfl; simpa using this
  clear hX hE hc hr hn hz h1 h2 h3
  go_enter Tryd.func36, Tryd.ntmps36
  go_wp2_with fail
  refine R1.out.mono ?_
  rintro e w2 ⟨rfl, hb⟩
  have HB := Lib.hid hb
  clear hb
  go_wp2
  go_ret2
  exact ⟨rfl, HB.out⟩

set_option maxHeartbeats 1600000 in
theorem knownCert_any (b : ByteArray) (n : Nat) (a : Option Addr) (cap : Nat) (z : Int) (L : Int) (w : World) (hL : L = wrap64 (wrap64 (strL b + numsL n) + 5)) :
    Calls Tryd.prog 14 #[.iface 35 (.agg #[.string b, .slice a n cap, .int .i64 z])] w fun e w' => ∃ g, e = .returned (.agg #[.int .i64 5, .int .i64 L, .func (.func 36) #[] #[.pointer (some ⟨g, 0, none⟩)]]) ∧ w.heap.size ≤ g ∧ g < w'.heap.size ∧ w'.rangeAt g 0 [.string b, .slice a n cap, .int .i64 z] ∧ Below w.heap.size w w' := by
  have yCast := Any.noCast 35 (.agg #[.string b, .slice a n cap, .int .i64 z]) (by decide)
  have yList := Any.noList 35 (.agg #[.string b, .slice a n cap, .int .i64 z]) (by decide)
  have yPledge := Any.noPledge 35 (.agg #[.string b, .slice a n cap, .int .i64 z]) (by decide)
  have yShare := Any.noShare 35 (.agg #[.string b, .slice a n cap, .int .i64 z]) (by decide)
  have yCert := Any.yesCert (.agg #[.string b, .slice a n cap, .int .i64 z])
  have hmf : ∀ (fn : Fn) (first cap : Array Value) (w : World), (Instr.makeFunc fn first cap).run Tryd.prog w = .ok (.func fn first cap) w := fun _ _ _ _ => rfl
  have HM := Lib.hid (Hold.Hld.start w)
  obtain ⟨L1, hL1⟩ : ∃ L1, L1 = strL b := ⟨_, rfl⟩
  have R1 := Lib.hid (fun u => strLong_any b L1 u hL1)
  obtain ⟨L2, hL2⟩ : ∃ L2, L2 = numsL n := ⟨_, rfl⟩
  have R2 := Lib.hid (fun u => numsLong_any a n cap L2 u hL2)
  rw [← hL1, ← hL2] at hL
  subst hL
  clear hL1 hL2
  go_enter Tryd.func14, Tryd.ntmps14
  go_upto_region 16 with ((first
    | (with_reducible refine Hold.alloc HM.out rfl rfl zVal zero_zVal ?_; clear HM; intro b0 w HM; simp only [List.nil_append] at HM; replace HM := Lib.hid HM)))
  have hm2 := HM.out.add 35 [.string b, .slice a n cap, .int .i64 z]
  simp only [List.cons_append, List.nil_append] at hm2
  clear HM
  generalize w.alloc (.cells #[.string b, .slice a n cap, .int .i64 z] 35) = w2 at hm2 ⊢
  generalize w.heap.size = g at hm2 ⊢
  have HM := Lib.hid hm2
  clear hm2
  refine Steady.region 10 (by kernel_rfl) (by kernel_rfl) (fun u => Hold.Hld _ _ u) HM.out.drew ?_
  simp only [List.take_succ_cons, List.take_zero, List.drop_succ_cons, List.drop_zero]
  refine Steady.take ?_ rfl (by intro u hu; go_simp; with_reducible rfl) ?_
  simp only [Act.put, List.setIfInBounds_toArray, List.set_cons_zero, List.set_cons_succ]
  refine Steady.take (.string b) rfl (fun u hu => Hold.load1_run hu 1 rfl rfl rfl (rfl) (cellStr)) ?_
  simp only [Act.put, List.setIfInBounds_toArray, List.set_cons_zero, List.set_cons_succ]
  refine Steady.call _ _ _ rfl ?_ (Steady.same R1.out) ?_
  · intro u
    go_simp
  simp only [Act.put, List.setIfInBounds_toArray, List.set_cons_zero, List.set_cons_succ]
  refine Steady.take ?_ rfl (by intro u hu; go_simp; with_reducible rfl) ?_
  simp only [Act.put, List.setIfInBounds_toArray, List.set_cons_zero, List.set_cons_succ]
  refine Steady.take (.slice a n cap) rfl (fun u hu => Hold.load1_run hu 1 rfl rfl rfl (rfl) (cellInts)) ?_
  simp only [Act.put, List.setIfInBounds_toArray, List.set_cons_zero, List.set_cons_succ]
  refine Steady.call _ _ _ rfl ?_ (Steady.same R2.out) ?_
  · intro u
    go_simp
  simp only [Act.put, List.setIfInBounds_toArray, List.set_cons_zero, List.set_cons_succ]
  refine Steady.take (.int .i64 (wrap64 (L1 + L2))) rfl (fun u hu => by go_simp; rw [wrapEq]) ?_
  simp only [Act.put, List.setIfInBounds_toArray, List.set_cons_zero, List.set_cons_succ]
  refine Steady.take (.int .i64 (wrap64 (wrap64 (L1 + L2) + 5))) rfl (fun u hu => by go_simp; rw [wrapEq]) ?_
  simp only [Act.put, List.setIfInBounds_toArray, List.set_cons_zero, List.set_cons_succ]
  refine Steady.take ?_ rfl (by intro u hu; go_simp; with_reducible rfl) ?_
  simp only [Act.put, List.setIfInBounds_toArray, List.set_cons_zero, List.set_cons_succ]
  refine Steady.take (.agg ([.int .i64 5, .int .i64 (wrap64 (wrap64 (L1 + L2) + 5)), .func (.func 36) #[] #[.pointer (some ⟨g, 0, none⟩)]]).toArray) rfl (fun u hu => Hold.build_run rfl (by kernel_rfl)) ?_
  simp only [Act.put, List.setIfInBounds_toArray, List.set_cons_zero, List.set_cons_succ]
  refine Steady.nil ?_
  clear HM
  intro w HM
  replace HM := Lib.hid HM
  go_wp2_with ((first
    | (refine Hold.store HM.out 0 (v' := [.int .i64 5, .int .i64 (wrap64 (wrap64 (L1 + L2) + 5)), .func (.func 36) #[] #[.pointer (some ⟨g, 0, none⟩)]]) rfl rfl rfl rfl rfl (by simp [zVal_len]) (Hold.lay_all rfl) (by simp [Hold.Single, Value.oneCell']) row_zVal ?_; clear HM; intro w HM; simp only [List.set_cons_zero] at HM; replace HM := Lib.hid HM)))
  refine bodyPost_ret (Hold.results1 HM.out 0 rfl _ rfl rfl row_zVal) rfl ?_
  exact ⟨g, rfl, HM.out.old _ (List.mem_of_getElem? (i := 1) rfl), (HM.out.at 1 rfl).lt, HM.out.range 1 rfl (Hold.Part.all _), HM.out.below⟩

theorem rowOut : Hold.TyRow Tryd.prog 37 1 := ⟨_, Tryd.underlying37, rfl, by kernel_rfl⟩
set_option maxHeartbeats 800000 in
theorem laysOut_any (zs : List ByteArray) (n : Nat) (a : Option Addr) (cap : Nat) (X : ByteArray) (E : Int) (g : Nat) (w : World) (hX : X = layX (layAll strB zs)) (hE : E = errV (layAll strB zs)) (hc : w.rangeAt g 0 [.slice a n cap]) (hr : StrsR w a zs) (hn : zs.length = n) (hn2 : n ≤ 1000000) (hz : ∀ z ∈ zs, z.size ≤ 9223372036854775807) :
    Calls Tryd.prog 38 #[.pointer (some ⟨g, 0, none⟩)] w fun e w' => e = .returned (.tuple #[.string X, .int .i64 E]) ∧ Below w.heap.size w w' := by
  have R1 := Lib.hid (LetA.layOut_any zs n a cap X E w hX hE hr hn hn2 hz)
  have c0 : w.cell? ⟨g, 0, none⟩ = some (.slice a n cap) := by have := hc 0 (.slice a n cap) rfl; simpa using this
  clear hX hE hc hr hn hz
  go_enter Tryd.func38, Tryd.ntmps38
  go_wp2_with fail
  refine R1.out.mono ?_
  rintro e w2 ⟨rfl, hb⟩
  have HB := Lib.hid hb
  clear hb
  go_wp2
  go_ret2
  exact ⟨rfl, HB.out⟩

set_option maxHeartbeats 1600000 in
theorem knownOut_any (zs : List ByteArray) (n : Nat) (a : Option Addr) (cap : Nat) (L : Int) (w : World) (hL : L = strsL zs) (hr : StrsR w a zs) (hn : zs.length = n) (hn2 : n ≤ 1000000) :
    Calls Tryd.prog 14 #[.iface 37 (.agg #[.slice a n cap])] w fun e w' => ∃ g, e = .returned (.agg #[.int .i64 6, .int .i64 L, .func (.func 38) #[] #[.pointer (some ⟨g, 0, none⟩)]]) ∧ w.heap.size ≤ g ∧ g < w'.heap.size ∧ w'.rangeAt g 0 [.slice a n cap] ∧ Below w.heap.size w w' := by
  have yCast := Any.noCast 37 (.agg #[.slice a n cap]) (by decide)
  have yList := Any.noList 37 (.agg #[.slice a n cap]) (by decide)
  have yPledge := Any.noPledge 37 (.agg #[.slice a n cap]) (by decide)
  have yShare := Any.noShare 37 (.agg #[.slice a n cap]) (by decide)
  have yCert := Any.noCert 37 (.agg #[.slice a n cap]) (by decide)
  have yOut := Any.yesOut (.agg #[.slice a n cap])
  have hmf : ∀ (fn : Fn) (first cap : Array Value) (w : World), (Instr.makeFunc fn first cap).run Tryd.prog w = .ok (.func fn first cap) w := fun _ _ _ _ => rfl
  have HM := Lib.hid (Hold.Hld.start w)
  obtain ⟨L2, hL2⟩ : ∃ L2, L2 = strsL zs := ⟨_, rfl⟩
  have R2 := Lib.hid (fun u (hu : Below w.heap.size w u) => strsLong_any zs n a cap L2 u hL2 (hr.below hu) hn hn2)
  rw [← hL2] at hL
  subst hL
  clear hL2 hr hn
  go_enter Tryd.func14, Tryd.ntmps14
  go_upto_region 19 with ((first
    | (with_reducible refine Hold.alloc HM.out rfl rfl zVal zero_zVal ?_; clear HM; intro b0 w HM; simp only [List.nil_append] at HM; replace HM := Lib.hid HM)))
  have hm2 := HM.out.add 37 [.slice a n cap]
  simp only [List.cons_append, List.nil_append] at hm2
  clear HM
  generalize w.alloc (.cells #[.slice a n cap] 37) = w2 at hm2 ⊢
  generalize w.heap.size = g at hm2 ⊢
  have HM := Lib.hid hm2
  clear hm2
  go_wp2_with ((first
    | (with_reducible refine Hold.load1 HM.out 1 (c := .slice a n cap) rfl rfl rfl rfl (rfl) (cellStrs) ?_)
    | (with_reducible refine (R2.out _ HM.out.below).mono ?_; rintro e w ⟨rfl, rfl⟩)
    | (with_reducible refine Hold.build (t := 53) (cs := [.int .i64 6, .int .i64 L, .func (.func 38) #[] #[.pointer (some ⟨g, 0, none⟩)]]) rfl rfl (by kernel_rfl) ?_)
    | (refine Hold.store HM.out 0 (v' := [.int .i64 6, .int .i64 L, .func (.func 38) #[] #[.pointer (some ⟨g, 0, none⟩)]]) rfl rfl rfl rfl rfl (by simp [zVal_len]) (Hold.lay_all rfl) (by simp [Hold.Single, Value.oneCell']) row_zVal ?_; clear HM; intro w HM; simp only [List.set_cons_zero] at HM; replace HM := Lib.hid HM)))
  refine bodyPost_ret (Hold.results1 HM.out 0 rfl _ rfl rfl row_zVal) rfl ?_
  exact ⟨g, rfl, HM.out.old _ (List.mem_of_getElem? (i := 1) rfl), (HM.out.at 1 rfl).lt, HM.out.range 1 rfl (Hold.Part.all _), HM.out.below⟩

set_option maxHeartbeats 800000 in
theorem knownStr_any (s : ByteArray) (w : World) : Calls Tryd.prog 14 #[.iface 9 (.string s)] w fun e w' => e = .returned (.agg #[.int .i64 0, .int .i64 0, .func (.func 40) #[] #[]]) ∧ Below w.heap.size w w' := by
  have yCast := Any.noCast 9 (.string s) (by decide)
  have yList := Any.noList 9 (.string s) (by decide)
  have yPledge := Any.noPledge 9 (.string s) (by decide)
  have yShare := Any.noShare 9 (.string s) (by decide)
  have yCert := Any.noCert 9 (.string s) (by decide)
  have yOut := Any.noOut 9 (.string s) (by decide)
  have HM := Lib.hid (Hold.Hld.start w)
  go_enter Tryd.func14, Tryd.ntmps14
  go_wp2_with ((first
    | (with_reducible refine Hold.alloc HM.out rfl rfl zVal zero_zVal ?_; clear HM; intro b0 w HM; simp only [List.nil_append] at HM; replace HM := Lib.hid HM)
    | (with_reducible refine Hold.build (t := 53) (cs := [.int .i64 0, .int .i64 0, .func (.func 40) #[] #[]]) rfl rfl (by kernel_rfl) ?_)
    | (refine Hold.store HM.out 0 (v' := [.int .i64 0, .int .i64 0, .func (.func 40) #[] #[]]) rfl rfl rfl rfl rfl (by simp [zVal_len]) (Hold.lay_all rfl) (by simp [Hold.Single, Value.oneCell']) row_zVal ?_; clear HM; intro w HM; simp only [List.set_cons_zero] at HM; replace HM := Lib.hid HM)))
  refine bodyPost_ret (Hold.results1 HM.out 0 rfl _ rfl rfl row_zVal) rfl ?_
  exact ⟨rfl, HM.out.below⟩

set_option maxHeartbeats 800000 in
theorem knownInt_any (k : Int) (w : World) : Calls Tryd.prog 14 #[.iface 3 (.int .i64 k)] w fun e w' => e = .returned (.agg #[.int .i64 0, .int .i64 0, .func (.func 40) #[] #[]]) ∧ Below w.heap.size w w' := by
  have yCast := Any.noCast 3 (.int .i64 k) (by decide)
  have yList := Any.noList 3 (.int .i64 k) (by decide)
  have yPledge := Any.noPledge 3 (.int .i64 k) (by decide)
  have yShare := Any.noShare 3 (.int .i64 k) (by decide)
  have yCert := Any.noCert 3 (.int .i64 k) (by decide)
  have yOut := Any.noOut 3 (.int .i64 k) (by decide)
  have HM := Lib.hid (Hold.Hld.start w)
  go_enter Tryd.func14, Tryd.ntmps14
  go_wp2_with ((first
    | (with_reducible refine Hold.alloc HM.out rfl rfl zVal zero_zVal ?_; clear HM; intro b0 w HM; simp only [List.nil_append] at HM; replace HM := Lib.hid HM)
    | (with_reducible refine Hold.build (t := 53) (cs := [.int .i64 0, .int .i64 0, .func (.func 40) #[] #[]]) rfl rfl (by kernel_rfl) ?_)
    | (refine Hold.store HM.out 0 (v' := [.int .i64 0, .int .i64 0, .func (.func 40) #[] #[]]) rfl rfl rfl rfl rfl (by simp [zVal_len]) (Hold.lay_all rfl) (by simp [Hold.Single, Value.oneCell']) row_zVal ?_; clear HM; intro w HM; simp only [List.set_cons_zero] at HM; replace HM := Lib.hid HM)))
  refine bodyPost_ret (Hold.results1 HM.out 0 rfl _ rfl rfl row_zVal) rfl ?_
  exact ⟨rfl, HM.out.below⟩

set_option maxHeartbeats 800000 in
theorem knownNil_any (w : World) : Calls Tryd.prog 14 #[.nilIface] w fun e w' => e = .returned (.agg #[.int .i64 0, .int .i64 0, .func (.func 40) #[] #[]]) ∧ Below w.heap.size w w' := by
  have yCast := Any.nilCast
  have yList := Any.nilList
  have yPledge := Any.nilPledge
  have yShare := Any.nilShare
  have yCert := Any.nilCert
  have yOut := Any.nilOut
  have HM := Lib.hid (Hold.Hld.start w)
  go_enter Tryd.func14, Tryd.ntmps14
  go_wp2_with ((first
    | (with_reducible refine Hold.alloc HM.out rfl rfl zVal zero_zVal ?_; clear HM; intro b0 w HM; simp only [List.nil_append] at HM; replace HM := Lib.hid HM)
    | (with_reducible refine Hold.build (t := 53) (cs := [.int .i64 0, .int .i64 0, .func (.func 40) #[] #[]]) rfl rfl (by kernel_rfl) ?_)
    | (refine Hold.store HM.out 0 (v' := [.int .i64 0, .int .i64 0, .func (.func 40) #[] #[]]) rfl rfl rfl rfl rfl (by simp [zVal_len]) (Hold.lay_all rfl) (by simp [Hold.Single, Value.oneCell']) row_zVal ?_; clear HM; intro w HM; simp only [List.set_cons_zero] at HM; replace HM := Lib.hid HM)))
  refine bodyPost_ret (Hold.results1 HM.out 0 rfl _ rfl rfl row_zVal) rfl ?_
  exact ⟨rfl, HM.out.below⟩

theorem laysNone_any (w : World) : Calls Tryd.prog 40 #[] w fun e w' => e = .returned (.tuple #[.string ⟨#[]⟩, .int .i64 1]) ∧ Below w.heap.size w w' := by
  go_enter Tryd.func40, Tryd.ntmps40
  go_wp2
  go_ret2
  exact ⟨rfl, Below.refl _ _⟩
end Go.Proofs.YtlinpbmglcjkkaaDoor.Knw
