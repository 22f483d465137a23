/-
  RosterClosed: of each client that is closed all friends are, closing twice is closing once, of more no fewer are closed: for every roster and every two lists the law answers true and changes nothing that was there. Condition: none.
-/
import Derived.Test.YtofnjonmfgdpaaaRows
import Derived.Test.YtofnjonmfgdpaaaRosW
import Derived.Test.YtofnjonmfgdpaaaRosX
import Derived.Deep.RegionHeldLaw
namespace Go.Proofs.Ytofnjonmfgdpaaa.LawRClosed
open Go.ChangeShapes Go.WideShapes Go.ChangeAt Go.RowKit Mur Prt Ros
open Go.ChangeMaps (open_string shut_string)
set_option maxRecDepth 100000

/-- An append onto a row of one's own, as one step of a region that draws. -/
theorem step_append_zs {ops : Array Oper} {o : Oper} {a : Act} {K : Act → World → Prop} {Q : Exit → Act → World → Prop} {E : Prop} (hgd : o.guard = none) (s x : Operand)
    (ho : o.op = .call { callee := .builtin .append, args := #[s, x], argTypes := #[22, 22] }) (W : World) (base n : Nat) (v : Value) (l news : List Int) (ao : Option Addr) (m c : Nat) (hs : a.eval s = v) (hx : a.eval x = .slice ao m c)
    (hown : W.ownsRow base 3 1 v n (zsV l)) (hr : IntsR W ao news) (hm : news.length = m) (hn : n + m ≤ 8796093022208) (hbase : base ≤ W.heap.size)
    (h : ∀ v' w', w'.ownsRow base 3 1 v' (n + m) (zsV (l ++ news)) → W.grownBy w' v.ownBlock → K (a.put o.dst v') w') : if Region.wanted o (yielded ops a.tmps) = true then Oper.wp Try.prog o a W K Q else E := by
  have hw : Region.wanted o (yielded ops a.tmps) = true := by simp [Region.wanted, hgd]
  rw [if_pos hw]
  obtain ⟨v', w', hrun, r1, r2⟩ := run_append_zs (c := c) o.type hown hr hm hn hbase
  unfold Oper.wp
  simp [execOp, ho, resolve, invoke, builtin, hs, hx, hrun, Result.andThen]
  exact h v' w' r1 r2
/-- A call whose answer hangs on the world, as one step of a region that draws. -/
theorem step_call_some {P : Program} {ops : Array Oper} {o : Oper} {a : Act} {w : World} {K : Act → World → Prop} {Q : Exit → Act → World → Prop} {E : Prop} (hgd : o.guard = none) (n : FuncId) (hcall : ∀ (args : Array Value) (w : World), (callFunc n args).run P w = .ok (.enter n args) w) (xs : Array Operand) (ts : Array TypeId)
    (ho : o.op = .call { callee := .value (.func n), args := xs, argTypes := ts }) (vs : Array Value) (hv : xs.map a.eval = vs) (S : Value → World → Prop) (hc : Calls P n vs w fun e w' => ∃ v, e = .returned v ∧ S v w')
    (h : ∀ v w', S v w' → K (a.put o.dst v) w') : if Region.wanted o (yielded ops a.tmps) = true then Oper.wp P o a w K Q else E := by
  have hw : Region.wanted o (yielded ops a.tmps) = true := by simp [Region.wanted, hgd]
  rw [if_pos hw]
  unfold Oper.wp
  have hrun : (execOp a.eval o).run P w = .ok (.enter n vs) w := by
    subst hv
    simp [execOp, ho, resolve, invoke, Act.eval, Deferred.ofValue, hcall]
  rw [hrun, Oper.upon_enter]
  refine hc.mono ?_
  rintro e w' ⟨v, rfl, hs⟩
  exact h v w' hs
/-- What is kept while rows are made: a block that is whole. -/
structure KeepS (wz : World) (b : Nat) (t : TypeId) (x0 x1 x2 x3 x4 : Value) (w : World) : Prop where
  whole : Mur.Whole wz b t [x0, x1, x2, x3, x4]
  below : Below wz.heap.size wz w
theorem KeepS.all {wz w : World} {b : Nat} {t : TypeId} {x0 x1 x2 x3 x4 : Value} (h : KeepS wz b t x0 x1 x2 x3 x4 w) : w.cell? ⟨b, 0, none⟩ = some x0 ∧ w.cell? ⟨b, 1, none⟩ = some x1 ∧ w.cell? ⟨b, 2, none⟩ = some x2 ∧ w.cell? ⟨b, 3, none⟩ = some x3 ∧ w.cell? ⟨b, 4, none⟩ = some x4 ∧ KeepS wz b t x0 x1 x2 x3 x4 w := by
  obtain ⟨c0, c1, c2, c3, c4⟩ := five_cells (h.whole.below h.whole.lt h.below)
  exact ⟨c0, c1, c2, c3, c4, h⟩
theorem KeepS.next {wz w w' : World} {b : Nat} {t : TypeId} {x0 x1 x2 x3 x4 : Value} (h : KeepS wz b t x0 x1 x2 x3 x4 w) (k : Below w.heap.size w w') : KeepS wz b t x0 x1 x2 x3 x4 w' := ⟨h.whole, h.below.trans (k.mono h.below.size)⟩
theorem KeepS.grown {wz w w' : World} {b : Nat} {t : TypeId} {x0 x1 x2 x3 x4 : Value} {row : Option Nat} (h : KeepS wz b t x0 x1 x2 x3 x4 w) (k : w.grownBy w' row) (hr : ∀ j, row = some j → wz.heap.size ≤ j) : KeepS wz b t x0 x1 x2 x3 x4 w' := ⟨h.whole, h.below.grown k h.below.size hr⟩

set_option maxHeartbeats 3200000 in
theorem walk (r : R) (g : ByteArray) (ab ag : Option Addr) (nb cb ng cg : Nat) (l : List Int) (nl : Nat) (al : Option Addr) (cl : Nat) (more : List Int) (nm : Nat) (am : Option Addr) (cm : Nat) (w : World) (h : RosC w r g ab nb ag ng) (hil : IntsR w al l) (hln : l.length = nl) (_ : nl ≤ 9223372036854775807) (hlz : ∀ z ∈ l, -9223372036854775808 ≤ z ∧ z ≤ 9223372036854775807) (him : IntsR w am more) (hmn : more.length = nm) (_ : nm ≤ 9223372036854775807) (hmz : ∀ z ∈ more, -9223372036854775808 ≤ z ∧ z ≤ 9223372036854775807) :
    Calls Try.prog 3 #[.agg #[.string g, .int .i64 r.servers, .int .i64 r.clients, .slice ab nb cb, .slice ag ng cg], .slice al nl cl, .slice am nm cm] w fun e w' => e = .returned (.bool true) ∧ Below w.heap.size w w' := by
  have hX := five_made w 24 (.string g) (.int .i64 r.servers) (.int .i64 r.clients) (.slice ab nb cb) (.slice ag ng cg)
  have hB0 := (Below.refl w.heap.size w).alloc (Nat.le_refl _) (.cells #[.string g, .int .i64 r.servers, .int .i64 r.clients, .slice ab nb cb, .slice ag ng cg] 24)
  have HH := Lib.hid h
  clear h
  go_enter Try.func3, Try.ntmps3
  go_upto_region 1 with (fail)
  generalize w.alloc (.cells #[.string g, .int .i64 r.servers, .int .i64 r.clients, .slice ab nb cb, .slice ag ng cg] 24) = w0 at *
  have HX := Lib.hid hX
  have HB0 := Lib.hid hB0
  clear hX hB0
  obtain ⟨c0, c1, c2, c3, c4⟩ := five_cells HX.out
  by_cases h1 : 50 < nb
  · have hd : decide (50 < (nb : Int)) = true := decide_eq_true (by omega)
    have hd2 : decide (50 < nb) = true := decide_eq_true h1
    go_wp2_with fail
    refine (awake_any _).mono ?_
    rintro e w1 ⟨rfl, hb1⟩
    have HZ := Lib.hid (HB0.out.trans (hb1.mono HB0.out.size))
    clear hb1 c0 c1 c2 c3 c4
    go_wp2
    go_ret
    exact ⟨rfl, HZ.out⟩
  · have hd0a : decide (50 < (nb : Int)) = false := decide_eq_false (by omega)
    have hd0b : decide (50 < nb) = false := decide_eq_false h1
    by_cases h2 : 50 < ng
    · have hd : decide (50 < (ng : Int)) = true := decide_eq_true (by omega)
      have hd2 : decide (50 < ng) = true := decide_eq_true h2
      go_wp2_with fail
      refine (awake_any _).mono ?_
      rintro e w1 ⟨rfl, hb1⟩
      have HZ := Lib.hid (HB0.out.trans (hb1.mono HB0.out.size))
      clear hb1 c0 c1 c2 c3 c4
      go_wp2
      go_ret
      exact ⟨rfl, HZ.out⟩
    · have hd1a : decide (50 < (ng : Int)) = false := decide_eq_false (by omega)
      have hd1b : decide (50 < ng) = false := decide_eq_false h2
      by_cases h3 : 50 < nl
      · have hd : decide (50 < (nl : Int)) = true := decide_eq_true (by omega)
        have hd2 : decide (50 < nl) = true := decide_eq_true h3
        go_wp2_with fail
        refine (awake_any _).mono ?_
        rintro e w1 ⟨rfl, hb1⟩
        have HZ := Lib.hid (HB0.out.trans (hb1.mono HB0.out.size))
        clear hb1 c0 c1 c2 c3 c4
        go_wp2
        go_ret
        exact ⟨rfl, HZ.out⟩
      · have hd2a : decide (50 < (nl : Int)) = false := decide_eq_false (by omega)
        have hd2b : decide (50 < nl) = false := decide_eq_false h3
        by_cases h4 : 50 < nm
        · have hd : decide (50 < (nm : Int)) = true := decide_eq_true (by omega)
          have hd2 : decide (50 < nm) = true := decide_eq_true h4
          go_wp2_with fail
          refine (awake_any _).mono ?_
          rintro e w1 ⟨rfl, hb1⟩
          have HZ := Lib.hid (HB0.out.trans (hb1.mono HB0.out.size))
          clear hb1 c0 c1 c2 c3 c4
          go_wp2
          go_ret
          exact ⟨rfl, HZ.out⟩
        · have hd3a : decide (50 < (nm : Int)) = false := decide_eq_false (by omega)
          have hd3b : decide (50 < nm) = false := decide_eq_false h4
          have hr := HH.out.few (by omega) (by omega)
          have HR0 := Lib.hid (hr.below HB0.out)
          clear hr
          obtain ⟨A, hA⟩ : ∃ A, A = closed r l := ⟨_, rfl⟩
          obtain ⟨nA, hnA⟩ : ∃ n, A.length = n := ⟨_, rfl⟩
          have hA6 : nA ≤ 6 := by rw [← hnA, hA]; unfold closed; exact Nat.le_trans (List.length_filter_le _ _) (clients_length r)
          have hAin : ∀ c ∈ A, c ∈ l ∧ live r c = true ∧ 100 ≤ c ∧ c < 106 ∧ (∀ f ∈ friends r c, f ∈ A) := fun c hc => by
            rw [hA] at hc ⊢
            have k1 := closed_live r l c hc
            have k2 := clients_range r c ((closed_iff r l c).1 hc).1
            exact ⟨k1.1, k1.2, k2.1, k2.2, fun f hf => closed_friends r l c f hc hf⟩
          have hAB : ∀ c ∈ A, c ∈ closed r (l ++ more) := fun c hc => by rw [hA] at hc; exact closed_more r l more c hc
          have hAA : closed r A = A := by rw [hA]; exact closed_twice r l
          obtain ⟨nB, hnB⟩ : ∃ n, (closed r (l ++ more)).length = n := ⟨_, rfl⟩
          have hB6 : nB ≤ 6 := by rw [← hnB]; unfold closed; exact Nat.le_trans (List.length_filter_le _ _) (clients_length r)
          have R1 := Lib.hid (fun (u : World) (hu : RosR u r g ab nb ag ng) (hl : IntsR u al l) => closed_any r l A nA nl g ab ag al nb cb ng cg cl u hA hnA hln (by omega) hl hlz hu)
          have RB := Lib.hid (fun (v : Option Addr) (c : Nat) (u : World) (hu : RosR u r g ab nb ag ng) (hl : IntsR u v (l ++ more)) => closed_any r (l ++ more) (closed r (l ++ more)) nB (nl + nm) g ab ag v nb cb ng cg c u rfl hnB (by rw [List.length_append, hln, hmn]) (by omega) hl (fun z hz => by
            rcases List.mem_append.1 hz with hz | hz
            · exact hlz z hz
            · exact hmz z hz) hu)
          have RA := Lib.hid (fun (v : Option Addr) (c : Nat) (u : World) (hu : RosR u r g ab nb ag ng) (hl : IntsR u v A) => closed_any r A A nA nA g ab ag v nb cb ng cg c u hAA.symm hnA hnA (by omega) hl (fun z hz => by have := hAin z hz; omega) hu)
          have RL := Lib.hid (fun (c : Int) (hc : c ∈ A) (u : World) (hu : RosR u r g ab nb ag ng) => live_any r c true g ab ag nb cb ng cg u (hAin c hc).2.1.symm (by have := hAin c hc; omega) (by have := hAin c hc; omega) hu)
          have RF := Lib.hid (fun (c : Int) (hc : c ∈ A) (n : Nat) (hn : (friends r c).length = n) (u : World) (hu : RosR u r g ab nb ag ng) => friends_any r c (friends r c) n g ab ag nb cb ng cg u rfl hn (by have := hAin c hc; omega) (by have := hAin c hc; omega) hu)
          have HAIN := Lib.hid hAin
          have HAB := Lib.hid hAB
          have HNA := Lib.hid hnA
          have HNB := Lib.hid hnB
          have HIL := Lib.hid (hil.below HB0.out)
          have HIM := Lib.hid (him.below HB0.out)
          have HLN := Lib.hid hln
          have HMN := Lib.hid hmn
          clear hA hnA hAin hAB hAA hnB hil him hln hmn hlz hmz
          go_wp2_with fail
          refine (R1.out _ HR0.out HIL.out).mono ?_
          rintro e w1 ⟨aA, cA, rfl, hiA, hb1⟩
          have HC := Lib.hid (fun (u : World) (hu : Below w1.heap.size w1 u) => five_cells (HX.out.below HX.out.lt (hb1.trans (hu.mono hb1.size))))
          have HR := Lib.hid (fun (u : World) (hu : Below w1.heap.size w1 u) => HR0.out.below (hb1.trans (hu.mono hb1.size)))
          have HL := Lib.hid (fun (u : World) (hu : Below w1.heap.size w1 u) => HIL.out.below (hb1.trans (hu.mono hb1.size)))
          have HM := Lib.hid (fun (u : World) (hu : Below w1.heap.size w1 u) => HIM.out.below (hb1.trans (hu.mono hb1.size)))
          have HB1 := Lib.hid (HB0.out.trans (hb1.mono HB0.out.size))
          have HIA := Lib.hid hiA
          have HX1 := Lib.hid (HX.out.below HX.out.lt hb1)
          clear hb1 hiA c0 c1 c2 c3 c4
          go_upto_region 5 with (fail)
          go_loopw [9, 41] (fun _ i wr => ∃ j : Nat, j ≤ nA ∧ i = .int .i64 j ∧ Below w1.heap.size w1 wr) (fun _ i _ => nA - (intOf i).toNat)
          case atStart => exact ⟨0, by omega, rfl, Below.refl _ _⟩
          case round =>
            obtain ⟨j, hj, rfl, hbel⟩ := hrel
            have HW := Lib.hid hbel
            clear hbel
            obtain ⟨wo, rfl⟩ : ∃ wo, wo = wr := ⟨wr, rfl⟩
            by_cases hlt : j < nA
            · obtain ⟨b, o, rfl, hb, hc⟩ := HIA.out (by have := HNA.out; omega)
              obtain ⟨x, hx⟩ : ∃ x, A[j]? = some x := ⟨_, List.getElem?_eq_getElem (by have := HNA.out; omega)⟩
              have cx := (HW.out.cell (p := ⟨b, o + j, none⟩) hb).trans (hc j x hx)
              have hxA := List.mem_of_getElem? hx
              obtain ⟨nf, hnf⟩ : ∃ n, (friends r x).length = n := ⟨_, rfl⟩
              have hnf6 : nf ≤ 6 := by
                rw [← hnf]
                unfold friends
                split
                · simp
                · exact Nat.le_trans (List.length_filter_le _ _) (clients_length r)
              have HXA := Lib.hid hxA
              have HNF := Lib.hid hnf
              clear hx hxA hc hb hnf
              go_wp2_with fail
              refine (has_any l x true nl al cl _ (by simp [(HAIN.out x HXA.out).1]) HLN.out (by omega) (HL.out _ HW.out)).mono ?_
              rintro e w2 ⟨rfl, rfl⟩
              obtain ⟨c0, c1, c2, c3, c4⟩ := HC.out _ HW.out
              go_wp2_with fail
              refine (RL.out x HXA.out _ (HR.out _ HW.out)).mono ?_
              rintro e w2 ⟨rfl, hb2⟩
              have HW2 := Lib.hid (HW.out.trans (hb2.mono HW.out.size))
              clear hb2 c0 c1 c2 c3 c4 cx
              obtain ⟨c0, c1, c2, c3, c4⟩ := HC.out _ HW2.out
              go_wp2_with fail
              refine (RF.out x HXA.out nf HNF.out _ (HR.out _ HW2.out)).mono ?_
              rintro e w3 ⟨af, cf, rfl, hif, hb3⟩
              have HIF := Lib.hid hif
              have HW3 := Lib.hid (HW2.out.trans (hb3.mono HW2.out.size))
              clear hb3 hif c0 c1 c2 c3 c4
              go_wp2_with fail
              go_loopw [11, 59] (fun _ i wr => ∃ q : Nat, q ≤ nf ∧ i = .int .i64 q ∧ wr = w3) (fun _ i _ => nf - (intOf i).toNat)
              case atStart => exact ⟨0, by omega, rfl, rfl⟩
              case round =>
                obtain ⟨q, hq, rfl, rfl⟩ := hrel
                by_cases hlt2 : q < nf
                · obtain ⟨bf, of_, rfl, hbf, hcf⟩ := HIF.out (by have := HNF.out; omega)
                  obtain ⟨f, hf⟩ : ∃ f, (friends r x)[q]? = some f := ⟨_, List.getElem?_eq_getElem (by have := HNF.out; omega)⟩
                  have cxf := hcf q f hf
                  have hfA := (HAIN.out x HXA.out).2.2.2.2 f (List.mem_of_getElem? hf)
                  have HFA := Lib.hid hfA
                  clear hf hfA hcf hbf
                  go_wp2_with fail
                  refine (has_any A f true nA _ cA _ (by simp [HFA.out]) HNA.out (by omega) (HIA.out.below HW3.out)).mono ?_
                  rintro e w4 ⟨rfl, rfl⟩
                  go_wp2
                  go_roundw
                  case rel => exact ⟨q + 1, by omega, by go_num, by simp⟩
                  case measure => simp [intOf]; omega
                · obtain rfl : q = nf := by omega
                  go_wp2
                  go_roundw
                  case rel => exact ⟨j + 1, by omega, by go_num, HW3.out⟩
                  case measure => simp [intOf]; omega
            · obtain rfl : j = nA := by omega
              go_upto_region 16 with (fail)
              have hk0 : KeepS wo.drew w.heap.size 24 (.string g) (.int .i64 r.servers) (.int .i64 r.clients) (.slice ab nb cb) (.slice ag ng cg) wo.drew := ⟨(HX1.out.below HX1.out.lt HW.out).drew, Below.refl _ _⟩
              go_region_held_law (fun w' => w'.cell? ⟨w.heap.size, 0, none⟩ = some (.string g) ∧ w'.cell? ⟨w.heap.size, 1, none⟩ = some (.int .i64 r.servers) ∧ w'.cell? ⟨w.heap.size, 2, none⟩ = some (.int .i64 r.clients) ∧ w'.cell? ⟨w.heap.size, 3, none⟩ = some (.slice ab nb cb) ∧ w'.cell? ⟨w.heap.size, 4, none⟩ = some (.slice ag ng cg) ∧ KeepS wo.drew w.heap.size 24 (.string g) (.int .i64 r.servers) (.int .i64 r.clients) (.slice ab nb cb) (.slice ag ng cg) w')
                (first | exact KeepS.all (by assumption) | exact (KeepS.next (by assumption) ((Below.refl _ _).alloc (Nat.le_refl _) _)).all)
                (first
                | (refine step_append_zs (by rfl) _ _ (by rfl) _ wo.heap.size 0 _ [] l al nl cl (by rfl) (by rfl) (own_new wo.drew wo.heap.size (Nat.le_refl _)) ((HL.out _ HW.out.drew).below ((Below.refl _ _).alloc (Nat.le_refl _) _)) HLN.out (by omega) (by simp) ?_; intro v1 w2 hown1 hgrow1
                   rw [List.nil_append, Nat.zero_add] at hown1
                   have hk1 : KeepS wo.drew w.heap.size 24 (.string g) (.int .i64 r.servers) (.int .i64 r.clients) (.slice ab nb cb) (.slice ag ng cg) w2 := KeepS.grown (KeepS.next hk0 ((Below.refl _ _).alloc (Nat.le_refl _) _)) hgrow1 (fun q hq => by cases hq; exact Nat.le_refl _))
                | (refine step_append_zs (by rfl) _ _ (by rfl) w2 wo.heap.size nl _ l more am nm cm (by rfl) (by rfl) hown1 ((HM.out _ HW.out.drew).below hk1.below) HMN.out (by omega) hk1.below.size ?_; intro v2 w3 hown2 hgrow2
                   have hk2 : KeepS wo.drew w.heap.size 24 (.string g) (.int .i64 r.servers) (.int .i64 r.clients) (.slice ab nb cb) (.slice ag ng cg) w3 := KeepS.grown hk1 hgrow2 (fun q hq => (hown1.lt q hq).1)
                   obtain ⟨av, cv, rfl, -, hiv⟩ := own_ints hown2)
                | (refine step_call_some rfl 7 Try.call7 #[.tmp 69, .tmp 74] #[24, 22] rfl #[.agg #[.string g, .int .i64 r.servers, .int .i64 r.clients, .slice ab nb cb, .slice ag ng cg], .slice av (nl + nm) cv] (by first | (simp [Act.eval]; done) | simp [Act.eval, Act.put]) (fun v w' => (∃ ao co, v = .slice ao nB co ∧ IntsR w' ao (closed r (l ++ more))) ∧ Below w3.heap.size w3 w') ((RB.out av cv w3 (HR.out _ (HW.out.drew.trans (hk2.below.mono HW.out.drew.size))) hiv).mono (fun e w' hh => by obtain ⟨ao, co, e1, e2, e3⟩ := hh; exact ⟨_, e1, ⟨ao, co, rfl, e2⟩, e3⟩)) ?_; rintro v4 w4 ⟨⟨aB, cB, rfl, hiB⟩, hb4⟩
                   have hk4 : KeepS wo.drew w.heap.size 24 (.string g) (.int .i64 r.servers) (.int .i64 r.clients) (.slice ab nb cb) (.slice ag ng cg) w4 := KeepS.next hk2 hb4))
              have HW4 := Lib.hid (HW.out.drew.trans (hk4.below.mono HW.out.drew.size))
              have HIB := Lib.hid hiB
              clear hk0 hk1 hk2 hk4 hown1 hown2 hgrow1 hgrow2 hiv hb4 hiB
              go_wp2_with fail
              go_loopw [14, 78] (fun _ i wr => ∃ q : Nat, q ≤ j ∧ i = .int .i64 q ∧ wr = w4) (fun _ i _ => j - (intOf i).toNat)
              case atStart => exact ⟨0, by omega, rfl, rfl⟩
              case round =>
                obtain ⟨q, hq, rfl, rfl⟩ := hrel
                by_cases hlt2 : q < j
                · obtain ⟨b, o, rfl, hb, hc⟩ := HIA.out (by have := HNA.out; omega)
                  obtain ⟨x, hx⟩ : ∃ x, A[q]? = some x := ⟨_, List.getElem?_eq_getElem (by have := HNA.out; omega)⟩
                  have cx := (HW4.out.cell (p := ⟨b, o + q, none⟩) hb).trans (hc q x hx)
                  have hxB := HAB.out x (List.mem_of_getElem? hx)
                  have HXB := Lib.hid hxB
                  clear hx hxB hc hb
                  go_wp2_with fail
                  refine (has_any (closed r (l ++ more)) x true nB aB cB _ (by simp [HXB.out]) HNB.out (by omega) HIB.out).mono ?_
                  rintro e w5 ⟨rfl, rfl⟩
                  go_wp2
                  go_roundw
                  case rel => exact ⟨q + 1, by omega, by go_num, by simp⟩
                  case measure => simp [intOf]; omega
                · obtain rfl : q = j := by omega
                  obtain ⟨c0, c1, c2, c3, c4⟩ := HC.out _ HW4.out
                  go_wp2_with fail
                  refine (RA.out _ _ _ (HR.out _ HW4.out) (HIA.out.below HW4.out)).mono ?_
                  rintro e w5 ⟨a5, k5, rfl, hi5, hb5⟩
                  have HI5 := Lib.hid hi5
                  have HW5 := Lib.hid (HW4.out.trans (hb5.mono HW4.out.size))
                  clear hi5 hb5 c0 c1 c2 c3 c4
                  go_wp2_with fail
                  refine (Ros.ints_any A q q a5 aA k5 cA _ HNA.out HNA.out (by omega) HI5.out (HIA.out.below HW5.out)).mono ?_
                  rintro e w6 ⟨rfl, hb6⟩
                  have HW6 := Lib.hid (HW5.out.trans (hb6.mono HW5.out.size))
                  clear hb6
                  go_wp2_with fail
                  refine (awake_any _).mono ?_
                  rintro e w7 ⟨rfl, hb7⟩
                  have HZ := Lib.hid (HB1.out.trans ((HW6.out.trans (hb7.mono HW6.out.size)).mono HB1.out.size))
                  clear hb7
                  go_wp2
                  go_ret
                  exact ⟨rfl, HZ.out⟩

theorem own : ownKnob Try.prog.godebug = none := by kernel_rfl
theorem laidOut : laidOutB Try.prog = true := by kernel_rfl

theorem lifted (os : Os) (started : os.Started) (H : Type) (enc : TypeId × Value → H) :
    ReturnsInHanded {} Try.checked os 3 .any (Rows.rosterClosedSpec.pre6 enc Try.prog Try.f3 Rows.rosterClosedRow.domain false) (Rows.rosterClosedSpec.post enc Try.prog Try.f3 false true false false) := by
  refine returnsInHanded_of_change (C := Try.checked) own started (by kernel_rfl) Try.func3
    (ChangeSpec.witness6 (enc := enc) (C := Try.checked) false ⟨#[], #[.agg #[.string ByteArray.empty, .int .i64 0, .int .i64 0, .slice none 0 0, .slice none 0 0], .slice none 0 0, .slice none 0 0], []⟩ 8 (by kernel_rfl) (by kernel_rfl) (by kernel_rfl) (by kernel_rfl)) ?_
  intro W base args ds gs before hval0 hW hcnd _
  have hval : ∀ (j : Nat) t v, Try.f3.params[j]? = some t → args[j]? = some v → Value.okWide Try.prog W .any base t v := hval0
  have hW' := hW
  obtain ⟨p, q, hA0, hV, rfl, hfz, hnd⟩ := hW
  have hA : DataW.TrodAll enc Try.prog W 0 (fun _ => true) true Try.f3.params.toList args.toList ds p := hA0
  rw [Try.params3] at hA hval
  obtain ⟨v0, vs0, d0, ds0, p0, q0, hargs, rfl, rfl, h0, r0⟩ := trodAll_cons hA
  obtain ⟨v1, vs1, d1, ds1, p1, q1, rfl, rfl, rfl, h1, r1⟩ := trodAll_cons r0
  obtain ⟨v2, vs2, d2, ds2, p2, q2, rfl, rfl, rfl, h2, r2⟩ := trodAll_cons r1
  obtain ⟨rfl, rfl, rfl⟩ := trodAll_nil r2
  obtain rfl : args = #[v0, v1, v2] := by cases args; simp_all
  obtain ⟨rfl, rfl⟩ := trodVars_none hV
  have k0 := h0
  have lt0 : ∀ x ∈ p0, x.block < W.heap.size := by obtain ⟨m, hm⟩ := k0; exact DataW.trod_lt m _ _ _ hm
  obtain ⟨ro, g, ab, nb, cb, ag, ng, cg, rfl, hro⟩ := open_roster (hval 0 24 v0 rfl rfl) h0
  obtain ⟨a1, len1, cap1, rfl⟩ := okWide_slice Try.underlying22 (hval 1 22 v1 rfl rfl)
  have k1 := h1
  have lt1 : ∀ x ∈ p1, x.block < W.heap.size := by obtain ⟨m, hm⟩ := k1; exact DataW.trod_lt m _ _ _ hm
  obtain ⟨z1, w1, x1, y1, u1⟩ := ints_came h1
  obtain ⟨a2, len2, cap2, rfl⟩ := okWide_slice Try.underlying22 (hval 2 22 v2 rfl rfl)
  have k2 := h2
  have lt2 : ∀ x ∈ p2, x.block < W.heap.size := by obtain ⟨m, hm⟩ := k2; exact DataW.trod_lt m _ _ _ hm
  obtain ⟨z2, w2, x2, y2, u2⟩ := ints_came h2
  clear hA0 hval0
  refine (walk ro g ab ag nb cb ng cg z1 len1 a1 cap1 z2 len2 a2 cap2 W hro w1 x1 y1 u1 w2 x2 y2 u2).mono fun e W' ⟨he, bel⟩ => ?_
  subst he
  exact ⟨_, rfl, _, _, _, [], _, [], hW', trodAll_mk1 (shut_bool Try.underlying4 _), (trodAll_cons_mk (Below.trod laidOut (by kernel_rfl) (of_decide_eq_true (by kernel_rfl)) k0 bel lt0) (trodAll_cons_mk (Below.trod laidOut (by kernel_rfl) (of_decide_eq_true (by kernel_rfl)) k1 bel lt1) (trodAll_cons_mk (Below.trod laidOut (by kernel_rfl) (of_decide_eq_true (by kernel_rfl)) k2 bel lt2) trodAll_mk0))), rfl, bel.frame _, fun h => by cases h⟩

theorem over : Rows.rosterClosedRow.holds Try.pinned (OpenSpec.ofChange Rows.rosterClosedSpec) :=
  OpenClaim.holds_of_wide 3 Try.f3 rfl rfl rfl rfl rfl rfl rfl ⟨rfl, rfl, rfl, rfl, rfl⟩ rfl rfl rfl rfl rfl (by kernel_rfl) Try.func3 (by kernel_rfl)
    (of_decide_eq_true (by kernel_rfl)) (by unfold Func.isWrapper; first | (rw [if_pos (by decide +kernel)]; kernel_rfl) | (rw [if_neg (by decide +kernel)]; exact ⟨rfl, rfl⟩))
    (fun os started H enc _ => lifted os started H enc)

theorem proved : Rows.RosterClosedSaid := over
#print axioms proved
end Go.Proofs.Ytofnjonmfgdpaaa.LawRClosed
