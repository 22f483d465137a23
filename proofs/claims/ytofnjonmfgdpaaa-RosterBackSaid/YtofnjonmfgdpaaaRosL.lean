/-
  Closed of package roster answers what the plain mathematics of the text Ros says, and leaves all memory that was there as it was. Conditions: RosR; the list has no more than 1000 numbers, which fit.
-/
import Derived.Test.YtofnjonmfgdpaaaRosK
import Derived.Test.YtofnjonmfgdpaaaSteadyH
namespace Go.Proofs.Ytofnjonmfgdpaaa.Ros
open Go.RowKit Mur Prt Go.Maps
set_option maxRecDepth 100000

theorem missing_any (x : Int) (b bm n : Nat) (M : List Int) (t : Bool) (w : World) (ht : t = decide (x ∉ M)) (hx : -9223372036854775808 ≤ x ∧ x ≤ 9223372036854775807) (hm : MapR w bm n M) (hc : w.cell? ⟨b, 0, none⟩ = some (.map (some bm))) :
    Calls Try.prog 23 #[.int .i64 x, .pointer (some ⟨b, 0, none⟩)] w fun e w' => e = .returned (.bool t) ∧ w = w' := by
  have hl := hm.look x hx
  have he : ((((cnt x M : Nat) : Int)) == 0) = t := by
    rw [ht, Bool.eq_iff_iff, beq_iff_eq, decide_eq_true_iff]
    exact cnt_zero x M
  generalize cnt x M = k at *
  clear hm ht
  go_enter Try.func23, Try.ntmps23
  cases t with
  | true =>
    obtain rfl : k = 0 := by simpa using he
    go_wp2
    go_ret
    exact ⟨rfl, rfl⟩
  | false =>
    go_wp2
    go_ret
    exact ⟨by first | rfl | (show Ending.returned (.bool ((k : Int) == 0)) = _; rw [he]), rfl⟩
theorem enters23 : Enters Try.prog 23 := enters_of Try.func23 (by kernel_rfl) rfl
theorem enters25 : Enters Try.prog 25 := enters_of Try.func25 (by kernel_rfl) rfl

/-- What closing asks of a client. -/
def shut (r : R) (M : List Int) (c : Int) : Bool := decide (c ∈ M) && !((friends r c).any fun f => decide (f ∉ M))
theorem closed_shut (r : R) (l : List Int) : closed r l = (clientsL r).filter (shut r (amid 100 6 l)) := by
  unfold closed
  refine List.filter_congr fun c hc => ?_
  have h1 := clients_range r c hc
  have e1 : decide (c ∈ l) = decide (c ∈ amid 100 6 l) := decide_eq_decide.2 (amid_mem 100 6 c l (by omega) (by omega)).symm
  rw [shut, ← e1]
  congr 1
  rw [Bool.eq_iff_iff, List.all_eq_true, Bool.not_eq_true', ← Bool.not_eq_true, List.any_eq_true]
  constructor
  · rintro h ⟨f, hf, hn⟩
    have h2 := clients_range r f ((friends_iff r c f).1 hf).1
    exact (of_decide_eq_true hn) ((amid_mem 100 6 f l (by omega) (by omega)).2 (of_decide_eq_true (h f hf)))
  · intro h f hf
    have h2 := clients_range r f ((friends_iff r c f).1 hf).1
    refine decide_eq_true (Classical.byContradiction fun hn => h ⟨f, hf, decide_eq_true fun h3 => hn ?_⟩)
    exact (amid_mem 100 6 f l (by omega) (by omega)).1 h3

set_option maxHeartbeats 1600000 in
theorem shut_any (r : R) (c : Int) (t : Bool) (M : List Int) (k b b6 b5 bm : Nat) (g : ByteArray) (ab ag : Option Addr) (nb cb ng cg : Nat) (w : World) (ht : t = shut r M c) (h1 : -9223372036854775808 ≤ c) (h2 : c ≤ 9223372036854775807) (h : RosR w r g ab nb ag ng)
    (hlb : b < w.heap.size) (c0 : w.cell? ⟨b, 0, none⟩ = some (.string g)) (c1 : w.cell? ⟨b, 1, none⟩ = some (.int .i64 r.servers)) (c2 : w.cell? ⟨b, 2, none⟩ = some (.int .i64 r.clients)) (c3 : w.cell? ⟨b, 3, none⟩ = some (.slice ab nb cb)) (c4 : w.cell? ⟨b, 4, none⟩ = some (.slice ag ng cg))
    (hl6 : b6 < w.heap.size) (c6 : w.cell? ⟨b6, 0, none⟩ = some (.func (.func 23) #[] #[.pointer (some ⟨b5, 0, none⟩)])) (hl5 : b5 < w.heap.size) (c5 : w.cell? ⟨b5, 0, none⟩ = some (.map (some bm))) (hm : MapR w bm k M) :
    Calls Try.prog 25 #[.int .i64 c, .pointer (some ⟨b6, 0, none⟩), .pointer (some ⟨b, 0, none⟩)] w fun e w' => e = .returned (.bool t) ∧ Below w.heap.size w w' := by
  obtain ⟨x, hx⟩ : ∃ x, x = decide (c ∉ M) := ⟨_, rfl⟩
  obtain ⟨n, hn⟩ : ∃ n, (friends r c).length = n := ⟨_, rfl⟩
  have hn6 : n ≤ 6 := by
    rw [← hn]
    unfold friends
    split
    · simp
    · exact Nat.le_trans (List.length_filter_le _ _) (clients_length r)
  obtain ⟨y, hy⟩ : ∃ y, y = (friends r c).any fun f => decide (f ∉ M) := ⟨_, rfl⟩
  have hty : t = (!x && !y) := by rw [ht, shut, ← hy, hx]; simp
  have RM := Lib.hid (fun (f : Int) (q : Bool) (hq : q = decide (f ∉ M)) (hf : -9223372036854775808 ≤ f ∧ f ≤ 9223372036854775807) (u : World) (hu : Below w.heap.size w u) => missing_any f b5 bm k M q u hq hf (hm.below hu) ((hu.cell (p := ⟨b5, 0, none⟩) hl5).trans c5))
  have RF := Lib.hid (fun (u : World) (hu : Below w.heap.size w u) => friends_any r c (friends r c) n g ab ag nb cb ng cg u rfl hn h1 h2 (h.below hu))
  have HC := Lib.hid (fun (u : World) (hu : Below w.heap.size w u) => (⟨(hu.cell (p := ⟨b, 0, none⟩) hlb).trans c0, (hu.cell (p := ⟨b, 1, none⟩) hlb).trans c1, (hu.cell (p := ⟨b, 2, none⟩) hlb).trans c2, (hu.cell (p := ⟨b, 3, none⟩) hlb).trans c3, (hu.cell (p := ⟨b, 4, none⟩) hlb).trans c4, (hu.cell (p := ⟨b6, 0, none⟩) hl6).trans c6⟩ :
    u.cell? ⟨b, 0, none⟩ = some (.string g) ∧ u.cell? ⟨b, 1, none⟩ = some (.int .i64 r.servers) ∧ u.cell? ⟨b, 2, none⟩ = some (.int .i64 r.clients) ∧ u.cell? ⟨b, 3, none⟩ = some (.slice ab nb cb) ∧ u.cell? ⟨b, 4, none⟩ = some (.slice ag ng cg) ∧ u.cell? ⟨b6, 0, none⟩ = some (.func (.func 23) #[] #[.pointer (some ⟨b5, 0, none⟩)])))
  have HN := Lib.hid hn
  have HY := Lib.hid hy
  have R1 := Lib.hid (fun (u : World) (hu : Below w.drew.heap.size w.drew u) => RM.out c x hx ⟨h1, h2⟩ u ((Below.refl _ _).drew.trans hu))
  have HCD := Lib.hid (fun (u : World) (hu : Below w.drew.heap.size w.drew u) => HC.out u ((Below.refl _ _).drew.trans hu))
  have HD := Lib.hid (show Below w.heap.size w w.drew from (Below.refl _ _).drew)
  have hfr : ∀ f ∈ friends r c, -9223372036854775808 ≤ f ∧ f ≤ 9223372036854775807 := fun f hf => by
    have := clients_range r f ((friends_iff r c f).1 hf).1
    omega
  have HFR := Lib.hid hfr
  clear hm h ht hx hn hy c0 c1 c2 c3 c4 c5 c6 HC hfr
  subst hty
  go_enter Try.func25, Try.ntmps25
  cases x with
  | true =>
    go_upto_region 1 with (fail)
    refine Steady.region 12 (by kernel_rfl) (by as_aux_lemma => kernel_rfl) (fun u => Below w.drew.heap.size w.drew u) (Below.refl _ _) ?_
    simp only [List.take_succ_cons, List.take_zero]
    refine Steady.take ?_ rfl (by intro u hu; obtain ⟨c0, c1, c2, c3, c4, c6⟩ := HCD.out u hu; go_simp; with_reducible rfl) ?_
    simp only [Act.put, List.setIfInBounds_toArray, List.set_cons_zero, List.set_cons_succ]
    refine Steady.take ?_ rfl (by intro u hu; go_simp; with_reducible rfl) ?_
    simp only [Act.put, List.setIfInBounds_toArray, List.set_cons_zero, List.set_cons_succ]
    refine Steady.call _ _ _ rfl ?_ (fun u hu => (R1.out u hu).mono (fun e w' h => ⟨h.1, h.2 ▸ hu⟩)) ?_
    · intro u
      go_simp
    simp only [Act.put, List.setIfInBounds_toArray, List.set_cons_zero, List.set_cons_succ]
    refine Steady.take ?_ rfl (by intro u hu; go_simp; with_reducible rfl) ?_
    simp only [Act.put, List.setIfInBounds_toArray, List.set_cons_zero, List.set_cons_succ]
    refine Steady.take ?_ rfl (by intro u hu; go_simp; with_reducible rfl) ?_
    simp only [Act.put, List.setIfInBounds_toArray, List.set_cons_zero, List.set_cons_succ]
    refine Steady.pass rfl ?_
    simp only [Act.put, List.setIfInBounds_toArray, List.set_cons_zero, List.set_cons_succ]
    refine Steady.pass rfl ?_
    simp only [Act.put, List.setIfInBounds_toArray, List.set_cons_zero, List.set_cons_succ]
    refine Steady.pass rfl ?_
    simp only [Act.put, List.setIfInBounds_toArray, List.set_cons_zero, List.set_cons_succ]
    refine Steady.pass rfl ?_
    simp only [Act.put, List.setIfInBounds_toArray, List.set_cons_zero, List.set_cons_succ]
    refine Steady.pass rfl ?_
    simp only [Act.put, List.setIfInBounds_toArray, List.set_cons_zero, List.set_cons_succ]
    refine Steady.pass rfl ?_
    simp only [Act.put, List.setIfInBounds_toArray, List.set_cons_zero, List.set_cons_succ]
    refine Steady.take ?_ rfl (by intro u hu; go_simp; with_reducible rfl) ?_
    simp only [Act.put, List.setIfInBounds_toArray, List.set_cons_zero, List.set_cons_succ]
    refine Steady.nil ?_
    intro w5 hb5
    have HQ := Lib.hid (HD.out.trans (hb5.mono HD.out.size))
    clear hb5
    go_wp2
    go_ret
    exact ⟨rfl, HQ.out⟩
  | false =>
    go_upto_region 1 with (fail)
    refine wp_region_held (S := fun u => Below w.drew.heap.size w.drew u) (by kernel_rfl) ?_
    refine Steady.phase 0 5 8 (by kernel_rfl) (by as_aux_lemma => kernel_rfl) (Below.refl _ _) ?_
    simp only [List.take_succ_cons, List.take_zero, List.drop_zero]
    refine Steady.take ?_ rfl (by intro u hu; obtain ⟨c0, c1, c2, c3, c4, c6⟩ := HCD.out u hu; go_simp; with_reducible rfl) ?_
    simp only [Act.put, List.setIfInBounds_toArray, List.set_cons_zero, List.set_cons_succ]
    refine Steady.take ?_ rfl (by intro u hu; go_simp; with_reducible rfl) ?_
    simp only [Act.put, List.setIfInBounds_toArray, List.set_cons_zero, List.set_cons_succ]
    refine Steady.call _ _ _ rfl ?_ (fun u hu => (R1.out u hu).mono (fun e w' h => ⟨h.1, h.2 ▸ hu⟩)) ?_
    · intro u
      go_simp
    simp only [Act.put, List.setIfInBounds_toArray, List.set_cons_zero, List.set_cons_succ]
    refine Steady.take ?_ rfl (by intro u hu; go_simp; with_reducible rfl) ?_
    simp only [Act.put, List.setIfInBounds_toArray, List.set_cons_zero, List.set_cons_succ]
    refine Steady.take ?_ rfl (by intro u hu; go_simp; with_reducible rfl) ?_
    simp only [Act.put, List.setIfInBounds_toArray, List.set_cons_zero, List.set_cons_succ]
    refine Steady.nil ?_
    intro w5 hb5
    have HQ := Lib.hid hb5
    clear hb5
    refine wpAnyH_take (i := 5) (by simp only [List.getElem?_toArray, List.getElem?_cons_succ, List.getElem?_cons_zero]; rfl) (by kernel_rfl) (by as_aux_lemma => kernel_rfl) (by as_aux_lemma => kernel_rfl) (fun _ _ _ h => by exact h) (.inl ⟨rfl, fun u hu => by obtain ⟨c0, c1, c2, c3, c4, c6⟩ := HCD.out u hu; go_simp; with_reducible rfl⟩) HQ.out ?_
    simp only [Act.put, List.setIfInBounds_toArray, List.set_cons_zero, List.set_cons_succ]
    refine wpAnyH_take (i := 6) (by simp only [List.getElem?_toArray, List.getElem?_cons_succ, List.getElem?_cons_zero]; rfl) (by kernel_rfl) (by as_aux_lemma => kernel_rfl) (by as_aux_lemma => kernel_rfl) (fun _ _ _ h => by exact h) (.inl ⟨rfl, fun u hu => by go_simp; with_reducible rfl⟩) HQ.out ?_
    simp only [Act.put, List.setIfInBounds_toArray, List.set_cons_zero, List.set_cons_succ]
    refine wpAnyH_take (i := 8) (by simp only [List.getElem?_toArray, List.getElem?_cons_succ, List.getElem?_cons_zero]; rfl) (by kernel_rfl) (by as_aux_lemma => kernel_rfl) (by as_aux_lemma => kernel_rfl) (fun _ _ _ h => by exact h) (.inl ⟨rfl, fun u hu => by obtain ⟨c0, c1, c2, c3, c4, c6⟩ := HCD.out u hu; go_simp; with_reducible rfl⟩) HQ.out ?_
    simp only [Act.put, List.setIfInBounds_toArray, List.set_cons_zero, List.set_cons_succ]
    refine Steady.call_next (i := 7) (by kernel_rfl) (by simp only [List.getElem?_toArray, List.getElem?_cons_succ, List.getElem?_cons_zero]; rfl) (by kernel_rfl) _ _ (by go_simp) (fun v w' => (∃ ao co, v = .slice ao n co ∧ IntsR w' ao (friends r c)) ∧ Below w5.heap.size w5 w') ((RF.out w5 (HD.out.trans (HQ.out.mono HD.out.size))).mono (fun e w' h => by obtain ⟨ao, co, h1, h2, h3⟩ := h; exact ⟨_, h1, ⟨ao, co, rfl, h2⟩, h3⟩)) ?_
    rintro v1 w6 ⟨⟨ao, co, rfl, hi⟩, hb6⟩
    have HQ6 := Lib.hid (HQ.out.trans (hb6.mono HQ.out.size))
    have HI := Lib.hid hi
    clear hi hb6 HQ
    refine ⟨HQ6.out, ?_⟩
    simp only [Act.put, List.setIfInBounds_toArray, List.set_cons_zero, List.set_cons_succ]
    have R3 := Lib.hid (containsfunc_any (friends r c) (fun f => decide (f ∉ M)) 23 #[.pointer (some ⟨b5, 0, none⟩)] n ao co w6 y HY.out HN.out (by omega) HI.out enters23 (fun f hf u hu => (RM.out f _ rfl (HFR.out f hf) u (HD.out.trans ((HQ6.out.trans (hu.mono HQ6.out.size)).mono HD.out.size))).mono (fun e w' h => ⟨h.1, h.2 ▸ Below.refl _ _⟩)))
    refine Steady.call_next (i := 9) (by kernel_rfl) (by simp only [List.getElem?_toArray, List.getElem?_cons_succ, List.getElem?_cons_zero]; rfl) (by kernel_rfl) _ _ (by go_simp) (fun v w' => v = .bool y ∧ Below w6.heap.size w6 w') (R3.out.mono (fun e w' h => ⟨_, h.1, rfl, h.2⟩)) ?_
    rintro v2 w7 ⟨rfl, hb7⟩
    have HQ := Lib.hid (HQ6.out.trans (hb7.mono HQ6.out.size))
    clear hb7 HQ6
    refine ⟨HQ.out, ?_⟩
    simp only [Act.put, List.setIfInBounds_toArray, List.set_cons_zero, List.set_cons_succ]
    refine wpAnyH_take (i := 10) (by simp only [List.getElem?_toArray, List.getElem?_cons_succ, List.getElem?_cons_zero]; rfl) (by kernel_rfl) (by as_aux_lemma => kernel_rfl) (by as_aux_lemma => kernel_rfl) (fun _ _ _ h => by exact h) (.inl ⟨rfl, fun u hu => by go_simp; with_reducible rfl⟩) HQ.out ?_
    simp only [Act.put, List.setIfInBounds_toArray, List.set_cons_zero, List.set_cons_succ]
    refine wpAnyH_take (i := 11) (by simp only [List.getElem?_toArray, List.getElem?_cons_succ, List.getElem?_cons_zero]; rfl) (by kernel_rfl) (by as_aux_lemma => kernel_rfl) (by as_aux_lemma => kernel_rfl) (fun _ _ _ h => by exact h) (.inl ⟨rfl, fun u hu => by go_simp; with_reducible rfl⟩) HQ.out ?_
    simp only [Act.put, List.setIfInBounds_toArray, List.set_cons_zero, List.set_cons_succ]
    refine wpAnyH_take (i := 12) (by simp only [List.getElem?_toArray, List.getElem?_cons_succ, List.getElem?_cons_zero]; rfl) (by kernel_rfl) (by as_aux_lemma => kernel_rfl) (by as_aux_lemma => kernel_rfl) (fun _ _ _ h => by exact h) (.inl ⟨rfl, fun u hu => by go_simp; with_reducible rfl⟩) HQ.out ?_
    simp only [Act.put, List.setIfInBounds_toArray, List.set_cons_zero, List.set_cons_succ]
    refine wpAnyH_done (by kernel_rfl) ?_ 0
    have HZ := Lib.hid (HD.out.trans (HQ.out.mono HD.out.size))
    go_wp2
    go_ret
    exact ⟨by simp, HZ.out⟩
end Go.Proofs.Ytofnjonmfgdpaaa.Ros
