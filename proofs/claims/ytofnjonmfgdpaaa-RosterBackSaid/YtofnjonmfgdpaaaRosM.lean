/-
  Closed of package roster answers what the plain mathematics of the text Ros says, and leaves all memory that was there as it was. Conditions: RosR; the list has no more than 1000 numbers, which fit.
-/
import Derived.Test.YtofnjonmfgdpaaaRosL
import Derived.Laws.EntriesVeiled
namespace Go.Proofs.Ytofnjonmfgdpaaa.Ros
open Go.RowKit Mur Prt Go.Maps
set_option maxRecDepth 100000

set_option maxHeartbeats 1600000 in
theorem closed_any (r : R) (l : List Int) (L : List Int) (n k : Nat) (g : ByteArray) (ab ag al : Option Addr) (nb cb ng cg cl : Nat) (w : World) (hL : L = closed r l) (hn : L.length = n) (hl : l.length = k) (hk : k ≤ 1000) (hil : IntsR w al l) (hz : ∀ z ∈ l, -9223372036854775808 ≤ z ∧ z ≤ 9223372036854775807) (h : RosR w r g ab nb ag ng) :
    Calls Try.prog 7 #[.agg #[.string g, .int .i64 r.servers, .int .i64 r.clients, .slice ab nb cb, .slice ag ng cg], .slice al k cl] w fun e w' => ∃ ao co, e = .returned (.slice ao n co) ∧ IntsR w' ao L ∧ Below w.heap.size w w' := by
  have hmf : ∀ (fn : Fn) (first cap : Array Value) (w : World), (Instr.makeFunc fn first cap).run Try.prog w = .ok (.func fn first cap) w := fun _ _ _ _ => rfl
  obtain ⟨m, hm⟩ : ∃ m, (clientsL r).length = m := ⟨_, rfl⟩
  have hm6 : m ≤ 6 := by rw [← hm]; exact clients_length r
  have R1 := Lib.hid (fun (u : World) (hu : IntsR u al l) => met_any l 100 6 k al cl u (by omega) hl hk hu hz)
  have R2 := Lib.hid (fun (u : World) (hu : RosR u r g ab nb ag ng) => clients_any r (clientsL r) m g ab ag nb cb ng cg u rfl hm hu)
  have HX := Lib.hid (box_five w (.string g) (.int .i64 r.servers) (.int .i64 r.clients) (.slice ab nb cb) (.slice ag ng cg) 24)
  have HR := Lib.hid (h.below HX.out.1)
  have HIL := Lib.hid (hil.below HX.out.1)
  have HL := Lib.hid (hL.trans (closed_shut r l))
  have HN := Lib.hid hn
  have HM := Lib.hid hm
  clear h hL hn hm hl hil hz
  go_enter Try.func7, Try.ntmps7
  go_upto_region 1 with (fail)
  generalize w.alloc (.cells #[.string g, .int .i64 r.servers, .int .i64 r.clients, .slice ab nb cb, .slice ag ng cg] 24) = w0 at *
  go_wp2_with fail
  refine (R1.out _ HIL.out).mono ?_
  rintro e w1 ⟨bm, rfl, hm1, hb1⟩
  have HB1 := Lib.hid hb1
  have HM1 := Lib.hid hm1
  clear hb1 hm1
  go_upto_region 2 with (fail)
  have hb2 := HB1.out.alloc HB1.out.size (.cells #[.map (some bm)] 45)
  have hc5 : (w1.alloc (.cells #[.map (some bm)] 45)).cell? ⟨w1.heap.size, 0, none⟩ = some (.map (some bm)) := by simp
  have hl5 : w1.heap.size < (w1.alloc (.cells #[.map (some bm)] 45)).heap.size := by simp
  have hm2 := HM1.out.below ((Below.refl w1.heap.size w1).alloc (Nat.le_refl _) (.cells #[.map (some bm)] 45))
  generalize w1.alloc (.cells #[.map (some bm)] 45) = w2 at *
  have HB2 := Lib.hid hb2
  have HC5 := Lib.hid hc5
  have HL5 := Lib.hid hl5
  have HM2 := Lib.hid hm2
  clear hb2 hc5 hl5 hm2 HM1
  obtain ⟨b5, hb5⟩ : ∃ b5, b5 = w1.heap.size := ⟨_, rfl⟩
  rw [← hb5] at HC5 HL5 ⊢
  clear hb5
  go_upto_region 3 with (fail)
  have hb3 := HB2.out.alloc HB2.out.size (.cells #[.func (.func 23) #[] #[.pointer (some ⟨b5, 0, none⟩)]] 47)
  have h23 := (Below.refl w2.heap.size w2).alloc (Nat.le_refl _) (.cells #[.func (.func 23) #[] #[.pointer (some ⟨b5, 0, none⟩)]] 47)
  have hc6 : (w2.alloc (.cells #[.func (.func 23) #[] #[.pointer (some ⟨b5, 0, none⟩)]] 47)).cell? ⟨w2.heap.size, 0, none⟩ = some (.func (.func 23) #[] #[.pointer (some ⟨b5, 0, none⟩)]) := by simp
  have hl6 : w2.heap.size < (w2.alloc (.cells #[.func (.func 23) #[] #[.pointer (some ⟨b5, 0, none⟩)]] 47)).heap.size := by simp
  generalize w2.alloc (.cells #[.func (.func 23) #[] #[.pointer (some ⟨b5, 0, none⟩)]] 47) = w3 at *
  have HB3 := Lib.hid hb3
  have H23 := Lib.hid h23
  have HC6 := Lib.hid hc6
  have HL6 := Lib.hid hl6
  clear hb3 h23 hc6 hl6
  obtain ⟨c0, c1, c2, c3, c4⟩ := HX.out.2.2 w3 HB3.out
  go_wp2_with fail
  refine (R2.out _ (HR.out.below HB3.out)).mono ?_
  rintro e w4 ⟨ao, co, rfl, hi, hb4⟩
  have HI := Lib.hid hi
  have HB4 := Lib.hid hb4
  clear hi hb4 c0 c1 c2 c3 c4
  have R3 := Lib.hid (only_any (clientsL r) (shut r (amid 100 6 l)) 25 #[.pointer (some ⟨w2.heap.size, 0, none⟩), .pointer (some ⟨w.heap.size, 0, none⟩)] m ao co w4 HM.out (by omega) HI.out enters25 (fun f hf u hu => by
    have hf2 := clients_range r f hf
    have hb34 := HB4.out.trans (hu.mono HB4.out.size)
    have hb24 := H23.out.trans (hb34.mono H23.out.size)
    have hb0 := HB3.out.trans (hb34.mono HB3.out.size)
    obtain ⟨c0, c1, c2, c3, c4⟩ := HX.out.2.2 u hb0
    exact shut_any r f _ (amid 100 6 l) k w.heap.size w2.heap.size b5 bm g ab ag nb cb ng cg u rfl (by omega) (by omega) (HR.out.below hb0) (Nat.lt_of_lt_of_le HX.out.2.1 hb0.size) c0 c1 c2 c3 c4 (Nat.lt_of_lt_of_le HL6.out hb34.size) ((hb34.cell (p := ⟨w2.heap.size, 0, none⟩) HL6.out).trans HC6.out) (Nat.lt_of_lt_of_le HL5.out hb24.size) ((hb24.cell (p := ⟨b5, 0, none⟩) HL5.out).trans HC5.out) (HM2.out.below hb24)))
  rw [← HL.out, HN.out] at R3
  go_wp2_with fail
  refine R3.out.mono ?_
  rintro e w5 ⟨ao, co, rfl, hi, -, hb5⟩
  have HI5 := Lib.hid hi
  have HB5 := Lib.hid (HX.out.1.trans ((HB3.out.trans ((HB4.out.trans (hb5.mono HB4.out.size)).mono HB3.out.size)).mono HX.out.1.size))
  clear hi hb5
  go_wp2
  go_ret
  exact ⟨ao, co, rfl, HI5.out, HB5.out⟩
end Go.Proofs.Ytofnjonmfgdpaaa.Ros
