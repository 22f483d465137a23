/-
  Friends of package roster answers what the plain mathematics of the text Ros says, and leaves all memory that was there as it was. Conditions: RosR.
-/
import Derived.Test.YtofnjonmfgdpaaaRosJ
namespace Go.Proofs.Ytofnjonmfgdpaaa.Ros
open Go.RowKit Mur Prt Go.Maps
set_option maxRecDepth 100000

theorem clients_range (r : R) (x : Int) (h : x ∈ clientsL r) : 100 ≤ x ∧ x < 106 := by
  have h1 := ((clients_iff r x).1 h).1
  have h2 := most_le r.clients 6
  omega
theorem friends_some (r : R) (c v : Int) (h : bud r c = some v) : friends r c = (clientsL r).filter fun m => decide (bud r m = some v) := by
  unfold friends
  rw [h]
theorem friends_none (r : R) (c : Int) (h : bud r c = none) : friends r c = [] := by
  unfold friends
  rw [h]
theorem enters30 : Enters Try.prog 30 := enters_of Try.func30 (by kernel_rfl) rfl

set_option maxHeartbeats 1600000 in
theorem friends_any (r : R) (c : Int) (L : List Int) (n : Nat) (g : ByteArray) (ab ag : Option Addr) (nb cb ng cg : Nat) (w : World) (hL : L = friends r c) (hn : L.length = n) (h1 : -9223372036854775808 ≤ c) (h2 : c ≤ 9223372036854775807) (h : RosR w r g ab nb ag ng) :
    Calls Try.prog 10 #[.agg #[.string g, .int .i64 r.servers, .int .i64 r.clients, .slice ab nb cb, .slice ag ng cg], .int .i64 c] w fun e w' => ∃ ao co, e = .returned (.slice ao n co) ∧ IntsR w' ao L ∧ Below w.heap.size w w' := by
  have hmf : ∀ (fn : Fn) (first cap : Array Value) (w : World), (Instr.makeFunc fn first cap).run Try.prog w = .ok (.func fn first cap) w := fun _ _ _ _ => rfl
  obtain ⟨m, hm⟩ : ∃ m, (clientsL r).length = m := ⟨_, rfl⟩
  have hm6 : m ≤ 6 := by rw [← hm]; exact clients_length r
  obtain ⟨x, hx⟩ : ∃ x, x = budV r c := ⟨_, rfl⟩
  obtain ⟨y, hy⟩ : ∃ y, y = budB r c := ⟨_, rfl⟩
  have R1 := Lib.hid (fun (u : World) (hu : RosR u r g ab nb ag ng) => buddies_any r c x y g ab ag nb cb ng cg u hx hy h1 h2 hu)
  have R2 := Lib.hid (fun (u : World) (hu : RosR u r g ab nb ag ng) => clients_any r (clientsL r) m g ab ag nb cb ng cg u rfl hm hu)
  have HX := Lib.hid (box_five w (.string g) (.int .i64 r.servers) (.int .i64 r.clients) (.slice ab nb cb) (.slice ag ng cg) 24)
  have HR := Lib.hid (h.below HX.out.1)
  have HL := Lib.hid hL
  have HN := Lib.hid hn
  have HM := Lib.hid hm
  have HXX := Lib.hid hx
  have HYY := Lib.hid hy
  clear h hL hn hm hx hy
  go_enter Try.func10, Try.ntmps10
  go_upto_region 1 with (fail)
  generalize w.alloc (.cells #[.string g, .int .i64 r.servers, .int .i64 r.clients, .slice ab nb cb, .slice ag ng cg] 24) = w0 at *
  obtain ⟨c0, c1, c2, c3, c4⟩ := HX.out.2.2 w0 (Below.refl _ _)
  go_wp2_with fail
  refine (R1.out _ HR.out).mono ?_
  rintro e w1 ⟨rfl, hb1⟩
  have HB1 := Lib.hid hb1
  clear hb1 c0 c1 c2 c3 c4
  cases y with
  | false =>
    have hbn : bud r c = none := by
      have h3 := HYY.out
      unfold budB at h3
      cases hbu : bud r c with
      | none => rfl
      | some q => rw [hbu] at h3; cases h3
    have hLe : L = [] := by rw [HL.out, friends_none r c hbn]
    subst hLe
    obtain rfl : 0 = n := HN.out
    have HBW := Lib.hid (HB1.out.alloc HB1.out.size (.cells #[.int .i64 x] 3))
    clear hbn
    go_wp2
    go_ret
    exact ⟨none, 0, rfl, fun h => absurd rfl h, HX.out.1.trans (HBW.out.mono HX.out.1.size)⟩
  | true =>
    have hbs : bud r c = some x := by
      have h3 := HYY.out
      have h4 := HXX.out
      unfold budB at h3
      unfold budV at h4
      cases hbu : bud r c with
      | none => rw [hbu] at h3; cases h3
      | some q => rw [hbu] at h4; rw [h4]; rfl
    have hLe := HL.out.trans (friends_some r c x hbs)
    have HLE := Lib.hid hLe
    clear hbs hLe
    go_upto_region 4 with (fail)
    have HB2 := Lib.hid (HB1.out.alloc HB1.out.size (.cells #[.int .i64 x] 3))
    have hcv : (w1.alloc (.cells #[.int .i64 x] 3)).cell? ⟨w1.heap.size, 0, none⟩ = some (.int .i64 x) := by simp
    have hlv : w1.heap.size < (w1.alloc (.cells #[.int .i64 x] 3)).heap.size := by simp
    generalize w1.alloc (.cells #[.int .i64 x] 3) = w2 at *
    have HCV := Lib.hid hcv
    have HLV := Lib.hid hlv
    clear hcv hlv
    obtain ⟨c0, c1, c2, c3, c4⟩ := HX.out.2.2 w2 HB2.out
    go_wp2_with fail
    refine (R2.out _ (HR.out.below HB2.out)).mono ?_
    rintro e w3 ⟨ao, co, rfl, hi, hb3⟩
    have HI := Lib.hid hi
    have HB3 := Lib.hid hb3
    clear hi hb3 c0 c1 c2 c3 c4
    have R3 := Lib.hid (only_any (clientsL r) (fun f => decide (bud r f = some x)) 30 #[.pointer (some ⟨w.heap.size, 0, none⟩), .pointer (some ⟨w1.heap.size, 0, none⟩)] m ao co w3 HM.out (by omega) HI.out enters30 (fun f hf u hu => by
      have hf2 := clients_range r f hf
      have hb23 := HB3.out.trans (hu.mono HB3.out.size)
      have hb0 := HB2.out.trans (hb23.mono HB2.out.size)
      obtain ⟨c0, c1, c2, c3, c4⟩ := HX.out.2.2 u hb0
      exact friendly_any r f x _ g ab ag nb cb ng cg _ _ u rfl (by omega) (by omega) (HR.out.below hb0) c0 c1 c2 c3 c4 (Nat.lt_of_lt_of_le HLV.out hb23.size) ((hb23.cell (p := ⟨w1.heap.size, 0, none⟩) HLV.out).trans HCV.out)))
    rw [← HLE.out, HN.out] at R3
    go_wp2_with fail
    refine R3.out.mono ?_
    rintro e w4 ⟨ao, co, rfl, hi, -, hb4⟩
    have HI4 := Lib.hid hi
    have HB4 := Lib.hid (HX.out.1.trans ((HB2.out.trans ((HB3.out.trans (hb4.mono HB3.out.size)).mono HB2.out.size)).mono HX.out.1.size))
    clear hi hb4
    go_wp2
    go_ret
    exact ⟨ao, co, rfl, HI4.out, HB4.out⟩
end Go.Proofs.Ytofnjonmfgdpaaa.Ros
