/-
  Secrets of package pad (Secret, Server, Shared) are what the plain mathematics of the text Pad says; all memory that was there is left as it was. Conditions: a short seed, numbers of 64 bits, the listed tables.
-/
import Derived.Test.YtolmfimpaofefaaGreatDoorPad
import Derived.Test.YtolmfimpaofefaaGreatDoorMBkX
import Derived.Test.YtolmfimpaofefaaGreatDoorBkZh
import Derived.Test.YtolmfimpaofefaaGreatDoorMLad
namespace Go.Proofs.YtolmfimpaofefaaGreatDoor.Pad
open Go.RowKit Mur Prt Lanes Tap Bkl Bkm Rec Cel Bkr Bkb
set_option maxRecDepth 100000
set_option linter.unusedSimpArgs false

theorem info_long (l : List (List UInt8)) (k : Nat) (h : ∀ s ∈ l, s.length ≤ k) : (Ked.infoOf l).length ≤ (k + 2) * l.length := by
  induction l with
  | nil => simp [Ked.infoOf]
  | cons s l ih =>
    have h1 := h s (by simp)
    have h2 := ih fun x hx => h x (by simp [hx])
    simp only [Ked.infoOf, List.map_cons, List.flatten_cons, List.length_append, Lanes.high, List.length_map, List.length_range, List.length_cons] at *
    rw [Nat.mul_add]
    omega
/-- Derive for short texts that lie in a block. -/
theorem derive_own (key : ByteArray) (ls : List ByteArray) (m : Nat) (X : ByteArray) (b : Nat) (w : World) (hkey : key.size ≤ 1000) (hm : ls.length = m) (hm2 : m ≤ 10) (hs : ∀ s ∈ ls, s.size ≤ 100) (hb : b < w.heap.size) (hc : ∀ i (h : i < ls.length), w.cell? ⟨b, i, none⟩ = some (.string ls[i])) (hX : X = tx (Ked.derive key.data.toList 32 (ls.map (·.data.toList)))) (hl : Laid w) :
    Calls Tryz.prog 39 #[.string key, .int .i64 32, .slice (some ⟨b, 0, none⟩) m m] w fun e w' => e = .returned (.string X) ∧ Below w.heap.size w w' := by
  subst hm
  have hmap : ∀ x ∈ ls.map (·.data.toList), x.length ≤ 100 := fun x hx => by
    obtain ⟨s, hs2, rfl⟩ := List.mem_map.1 hx
    exact hs s hs2
  have h1 := info_long _ 100 hmap
  rw [List.length_map] at h1
  exact Ked.derive_any key 32 ls X (some ⟨b, 0, none⟩) b 0 ls.length w (by omega) (fun _ => ⟨rfl, hb⟩) (fun i hi => by rw [Nat.zero_add]; exact hc i hi) (by omega) (by omega) (fun s hs2 => by have := hs s hs2; omega) (by rw [hX]; rfl) hl.consts

set_option maxHeartbeats 1600000 in
theorem secret_any (A : Nat → Prop) (b : Bk) (v : List Value) (c : Int) (s : Int) (e : Int) (X : ByteArray) (w : World) (hX : X = tx (secret b.seed c s e)) (h : BkR w b v A) (hro : b.seed.length ≤ 1000) (cl : -9223372036854775808 ≤ c) (ch : c ≤ 9223372036854775807) (sl : -9223372036854775808 ≤ s) (sh : s ≤ 9223372036854775807) (el : -9223372036854775808 ≤ e) (eh : e ≤ 9223372036854775807) (hl : Laid w) :
    Calls Tryz.prog 14 #[.agg v.toArray, .int .i64 c, .int .i64 s, .int .i64 e] w fun e w' => e = .returned (.string X) ∧ Below w.heap.size w w' := by
  obtain ⟨w0, hw0⟩ : ∃ w0, w0 = w := ⟨w, rfl⟩
  subst hw0
  obtain ⟨Dc, hDc⟩ : ∃ D, D = tx (dec c) := ⟨_, rfl⟩
  have hLc : Dc.size ≤ 100 := by rw [hDc, tx_long]; have := dec_length c ch; omega
  have Rc := Lib.hid (fun u (hu : Laid u) => Tape.dec_any c Dc u hDc cl ch hu.pow)
  obtain ⟨Ds, hDs⟩ : ∃ D, D = tx (dec s) := ⟨_, rfl⟩
  have hLs : Ds.size ≤ 100 := by rw [hDs, tx_long]; have := dec_length s sh; omega
  have Rs := Lib.hid (fun u (hu : Laid u) => Tape.dec_any s Ds u hDs sl sh hu.pow)
  obtain ⟨De, hDe⟩ : ∃ D, D = tx (dec e) := ⟨_, rfl⟩
  have hLe : De.size ≤ 100 := by rw [hDe, tx_long]; have := dec_length e eh; omega
  have Re := Lib.hid (fun u (hu : Laid u) => Tape.dec_any e De u hDe el eh hu.pow)
  have RD := Lib.hid (fun (q : Nat) (u : World) (hq : q < u.heap.size) (h0 : u.cell? ⟨q, 0, none⟩ = some (.string ⟨#[112, 97, 105, 114]⟩)) (h1 : u.cell? ⟨q, 1, none⟩ = some (.string Dc)) (h2 : u.cell? ⟨q, 2, none⟩ = some (.string Ds)) (h3 : u.cell? ⟨q, 3, none⟩ = some (.string De)) (hu : Laid u) => derive_own (tx b.seed) [⟨#[112, 97, 105, 114]⟩, Dc, Ds, De] 4 X q u (by rw [tx_long]; exact hro) rfl (by decide) (by intro s hs; simp only [List.mem_cons, List.not_mem_nil, or_false] at hs; rcases hs with rfl | rfl | rfl | rfl <;> first | assumption | decide) hq (fun i hi => by match i, hi with | 0, _ => exact h0 | 1, _ => exact h1 | 2, _ => exact h2 | 3, _ => exact h3) (by rw [hX, hDc, hDs, hDe]; rfl) hu)
  have H1 := Lib.hid h.at1
  have HLEN := Lib.hid h.len
  have HL := Lib.hid hl
  have HM := Lib.hid (Hold.Hld.start w0)
  generalize tx b.seed = sd at *
  clear hX h hro hl hDc hLc cl ch hDs hLs sl sh hDe hLe el eh
  go_enter Tryz.func14, Tryz.ntmps14
  go_upto_region 1 with ((first
    | ((with_reducible refine Hold.box HM.out rfl rfl rfl ?_); clear HM; intro b1 w HM; simp only [List.nil_append] at HM; replace HM := Lib.hid HM)))
  have HS := Lib.hid (Hold.Hld.drew (show Hold.Hld _ [⟨b1, 30, v⟩] w from HM.out))
  replace HM := Lib.hid HM.out.drew
  refine wp_region_held (S := fun u => Hold.Hld w0 [⟨b1, 30, v⟩] u) (by kernel_rfl) ?_
  change wpAnyH _ _ _ _ _ _ _ _ w.drew
  generalize w.drew = wd at *
  change wpAnyH _ _ _ _ _ (10 + 1) _ _ _
  refine wpAnyH_take (i := 0) (by simp only [List.getElem?_toArray, List.getElem?_cons_succ, List.getElem?_cons_zero]; rfl) (by kernel_rfl) (by kernel_rfl) (by kernel_rfl) (fun _ _ _ h => by exact h) (.inl ⟨by rfl, fun u hu => by go_simp; try with_reducible rfl⟩) HS.out ?_
  try simp only [List.getElem_toArray, List.getElem_cons_succ, List.getElem_cons_zero, Act.put, List.setIfInBounds_toArray, List.set_cons_zero, List.set_cons_succ]
  change wpAnyH _ _ _ _ _ (9 + 1) _ _ _
  refine wpAnyH_take (i := 1) (v := .string sd) (by simp only [List.getElem?_toArray, List.getElem?_cons_succ, List.getElem?_cons_zero]; rfl) (by kernel_rfl) (by kernel_rfl) (by kernel_rfl) (fun _ _ _ h => by exact h) (.inl ⟨by rfl, fun u hu => Hold.load1_run hu 0 rfl rfl rfl (H1.out) (Bkr.cellStr)⟩) HS.out ?_
  try simp only [List.getElem_toArray, List.getElem_cons_succ, List.getElem_cons_zero, Act.put, List.setIfInBounds_toArray, List.set_cons_zero, List.set_cons_succ]
  change wpAnyH _ _ _ _ _ (8 + 1) _ _ _
  refine wpAnyH_take (i := 2) (by simp only [List.getElem?_toArray, List.getElem?_cons_succ, List.getElem?_cons_zero]; rfl) (by kernel_rfl) (by kernel_rfl) (by kernel_rfl) (fun _ _ _ h => by exact h) (.inl ⟨by rfl, fun u hu => by go_simp; try with_reducible rfl⟩) HS.out ?_
  try simp only [List.getElem_toArray, List.getElem_cons_succ, List.getElem_cons_zero, Act.put, List.setIfInBounds_toArray, List.set_cons_zero, List.set_cons_succ]
  change wpAnyH _ _ _ _ _ (7 + 1) _ _ _
  refine wpAnyH_take (i := 4) (by simp only [List.getElem?_toArray, List.getElem?_cons_succ, List.getElem?_cons_zero]; rfl) (by kernel_rfl) (by kernel_rfl) (by kernel_rfl) (fun _ _ _ h => by exact h) (.inl ⟨by rfl, fun u hu => by go_simp; try with_reducible rfl⟩) HS.out ?_
  try simp only [List.getElem_toArray, List.getElem_cons_succ, List.getElem_cons_zero, Act.put, List.setIfInBounds_toArray, List.set_cons_zero, List.set_cons_succ]
  change wpAnyH _ _ _ _ _ (6 + 1) _ _ _
  refine wpAnyH_take (i := 6) (by simp only [List.getElem?_toArray, List.getElem?_cons_succ, List.getElem?_cons_zero]; rfl) (by kernel_rfl) (by kernel_rfl) (by kernel_rfl) (fun _ _ _ h => by exact h) (.inl ⟨by rfl, fun u hu => by go_simp; try with_reducible rfl⟩) HS.out ?_
  try simp only [List.getElem_toArray, List.getElem_cons_succ, List.getElem_cons_zero, Act.put, List.setIfInBounds_toArray, List.set_cons_zero, List.set_cons_succ]
  change wpAnyH _ _ _ _ _ (5 + 1) _ _ _
  refine wpAnyH_all (rs := [3]) (by kernel_rfl) (by simp) (fun j hj => ?_)
  obtain rfl : j = 3 := by simpa using hj
  refine Steady.call_any (i := 3) (by simp only [List.getElem?_toArray, List.getElem?_cons_succ, List.getElem?_cons_zero]; rfl) (by kernel_rfl) _ _ (by go_simp) (fun u w' => u = .string Dc ∧ Below _ _ w') ((Rc.out _ (HL.out.below HM.out.below)).mono (fun e w' hh => ⟨_, hh.1, rfl, hh.2⟩)) ?_
  rintro u w6 ⟨rfl, hb⟩
  replace HM := Lib.hid (HM.out.next hb)
  clear hb
  replace HS := Lib.hid (show Hold.Hld _ [⟨b1, 30, v⟩] _ from HM.out)
  refine ⟨HS.out, ?_⟩
  try simp only [List.getElem_toArray, List.getElem_cons_succ, List.getElem_cons_zero, Act.put, List.setIfInBounds_toArray, List.set_cons_zero, List.set_cons_succ]
  change wpAnyH _ _ _ _ _ (4 + 1) _ _ _
  refine wpAnyH_all (rs := [5]) (by kernel_rfl) (by simp) (fun j hj => ?_)
  obtain rfl : j = 5 := by simpa using hj
  refine Steady.call_any (i := 5) (by simp only [List.getElem?_toArray, List.getElem?_cons_succ, List.getElem?_cons_zero]; rfl) (by kernel_rfl) _ _ (by go_simp) (fun u w' => u = .string Ds ∧ Below _ _ w') ((Rs.out _ (HL.out.below HM.out.below)).mono (fun e w' hh => ⟨_, hh.1, rfl, hh.2⟩)) ?_
  rintro u w6 ⟨rfl, hb⟩
  replace HM := Lib.hid (HM.out.next hb)
  clear hb
  replace HS := Lib.hid (show Hold.Hld _ [⟨b1, 30, v⟩] _ from HM.out)
  refine ⟨HS.out, ?_⟩
  try simp only [List.getElem_toArray, List.getElem_cons_succ, List.getElem_cons_zero, Act.put, List.setIfInBounds_toArray, List.set_cons_zero, List.set_cons_succ]
  change wpAnyH _ _ _ _ _ (3 + 1) _ _ _
  refine wpAnyH_all (rs := [7]) (by kernel_rfl) (by simp) (fun j hj => ?_)
  obtain rfl : j = 7 := by simpa using hj
  refine Steady.call_any (i := 7) (by simp only [List.getElem?_toArray, List.getElem?_cons_succ, List.getElem?_cons_zero]; rfl) (by kernel_rfl) _ _ (by go_simp) (fun u w' => u = .string De ∧ Below _ _ w') ((Re.out _ (HL.out.below HM.out.below)).mono (fun e w' hh => ⟨_, hh.1, rfl, hh.2⟩)) ?_
  rintro u w6 ⟨rfl, hb⟩
  replace HM := Lib.hid (HM.out.next hb)
  clear hb
  replace HS := Lib.hid (show Hold.Hld _ [⟨b1, 30, v⟩] _ from HM.out)
  refine ⟨HS.out, ?_⟩
  try simp only [List.getElem_toArray, List.getElem_cons_succ, List.getElem_cons_zero, Act.put, List.setIfInBounds_toArray, List.set_cons_zero, List.set_cons_succ]
  change wpAnyH _ _ _ _ _ (2 + 1) _ _ _
  refine wpAnyH_all (rs := [8]) (by kernel_rfl) (by simp) (fun j hj => ?_)
  obtain rfl : j = 8 := by simpa using hj
  refine Hold.op_wp (by simp only [List.getElem?_toArray, List.getElem?_cons_succ, List.getElem?_cons_zero]; rfl) (by kernel_rfl) ?_
  go_simp
  replace HM := Lib.hid (HM.out.add 9 [.string ⟨#[112, 97, 105, 114]⟩, .string Dc, .string Ds, .string De])
  simp only [List.cons_append, List.nil_append] at HM
  replace HS := Lib.hid (show Hold.Hld _ [⟨b1, 30, v⟩] _ from Hold.Hld.front (m' := [_]) HM.out)
  refine ⟨HS.out, ?_⟩
  try simp only [List.getElem_toArray, List.getElem_cons_succ, List.getElem_cons_zero, Act.put, List.setIfInBounds_toArray, List.set_cons_zero, List.set_cons_succ]
  change wpAnyH _ _ _ _ _ (1 + 1) _ _ _
  refine wpAnyH_all (rs := [9]) (by kernel_rfl) (by simp) (fun j hj => ?_)
  obtain rfl : j = 9 := by simpa using hj
  refine Steady.call_any (i := 9) (by simp only [List.getElem?_toArray, List.getElem?_cons_succ, List.getElem?_cons_zero]; rfl) (by kernel_rfl) _ _ (by go_simp) (fun u w' => u = .string X ∧ Below _ _ w') ((RD.out _ _ (HM.out.at 1 rfl).lt ((HM.out.at 1 rfl).row.cell rfl) ((HM.out.at 1 rfl).row.cell rfl) ((HM.out.at 1 rfl).row.cell rfl) ((HM.out.at 1 rfl).row.cell rfl) (HL.out.below HM.out.below)).mono (fun e w' hh => ⟨_, hh.1, rfl, hh.2⟩)) ?_
  rintro u w6 ⟨rfl, hb⟩
  replace HM := Lib.hid (HM.out.next hb)
  clear hb
  replace HS := Lib.hid (show Hold.Hld _ [⟨b1, 30, v⟩] _ from Hold.Hld.front (m' := [_]) HM.out)
  refine ⟨HS.out, ?_⟩
  try simp only [List.getElem_toArray, List.getElem_cons_succ, List.getElem_cons_zero, Act.put, List.setIfInBounds_toArray, List.set_cons_zero, List.set_cons_succ]
  change wpAnyH _ _ _ _ _ (0 + 1) _ _ _
  refine wpAnyH_take (i := 10) (by simp only [List.getElem?_toArray, List.getElem?_cons_succ, List.getElem?_cons_zero]; rfl) (by kernel_rfl) (by kernel_rfl) (by kernel_rfl) (fun _ _ _ h => by exact h) (.inl ⟨by rfl, fun u hu => by go_simp; try with_reducible rfl⟩) HS.out ?_
  try simp only [List.getElem_toArray, List.getElem_cons_succ, List.getElem_cons_zero, Act.put, List.setIfInBounds_toArray, List.set_cons_zero, List.set_cons_succ]
  refine wpAnyH_done (by kernel_rfl) ?_ _
  go_wp2
  go_ret
  exact ⟨rfl, HM.out.below⟩

set_option maxHeartbeats 1600000 in
theorem server_any (A : Nat → Prop) (b : Bk) (v : List Value) (s : Int) (e : Int) (X : ByteArray) (w : World) (hX : X = tx (server b.seed s e)) (h : BkR w b v A) (hro : b.seed.length ≤ 1000) (sl : -9223372036854775808 ≤ s) (sh : s ≤ 9223372036854775807) (el : -9223372036854775808 ≤ e) (eh : e ≤ 9223372036854775807) (hl : Laid w) :
    Calls Tryz.prog 15 #[.agg v.toArray, .int .i64 s, .int .i64 e] w fun e w' => e = .returned (.string X) ∧ Below w.heap.size w w' := by
  obtain ⟨w0, hw0⟩ : ∃ w0, w0 = w := ⟨w, rfl⟩
  subst hw0
  obtain ⟨Ds, hDs⟩ : ∃ D, D = tx (dec s) := ⟨_, rfl⟩
  have hLs : Ds.size ≤ 100 := by rw [hDs, tx_long]; have := dec_length s sh; omega
  have Rs := Lib.hid (fun u (hu : Laid u) => Tape.dec_any s Ds u hDs sl sh hu.pow)
  obtain ⟨De, hDe⟩ : ∃ D, D = tx (dec e) := ⟨_, rfl⟩
  have hLe : De.size ≤ 100 := by rw [hDe, tx_long]; have := dec_length e eh; omega
  have Re := Lib.hid (fun u (hu : Laid u) => Tape.dec_any e De u hDe el eh hu.pow)
  have RD := Lib.hid (fun (q : Nat) (u : World) (hq : q < u.heap.size) (h0 : u.cell? ⟨q, 0, none⟩ = some (.string ⟨#[115, 101, 114, 118, 101, 114]⟩)) (h1 : u.cell? ⟨q, 1, none⟩ = some (.string Ds)) (h2 : u.cell? ⟨q, 2, none⟩ = some (.string De)) (hu : Laid u) => derive_own (tx b.seed) [⟨#[115, 101, 114, 118, 101, 114]⟩, Ds, De] 3 X q u (by rw [tx_long]; exact hro) rfl (by decide) (by intro s hs; simp only [List.mem_cons, List.not_mem_nil, or_false] at hs; rcases hs with rfl | rfl | rfl <;> first | assumption | decide) hq (fun i hi => by match i, hi with | 0, _ => exact h0 | 1, _ => exact h1 | 2, _ => exact h2) (by rw [hX, hDs, hDe]; rfl) hu)
  have H1 := Lib.hid h.at1
  have HLEN := Lib.hid h.len
  have HL := Lib.hid hl
  have HM := Lib.hid (Hold.Hld.start w0)
  generalize tx b.seed = sd at *
  clear hX h hro hl hDs hLs sl sh hDe hLe el eh
  go_enter Tryz.func15, Tryz.ntmps15
  go_upto_region 1 with ((first
    | ((with_reducible refine Hold.box HM.out rfl rfl rfl ?_); clear HM; intro b1 w HM; simp only [List.nil_append] at HM; replace HM := Lib.hid HM)))
  have HS := Lib.hid (Hold.Hld.drew (show Hold.Hld _ [⟨b1, 30, v⟩] w from HM.out))
  replace HM := Lib.hid HM.out.drew
  refine wp_region_held (S := fun u => Hold.Hld w0 [⟨b1, 30, v⟩] u) (by kernel_rfl) ?_
  change wpAnyH _ _ _ _ _ _ _ _ w.drew
  generalize w.drew = wd at *
  change wpAnyH _ _ _ _ _ (8 + 1) _ _ _
  refine wpAnyH_take (i := 0) (by simp only [List.getElem?_toArray, List.getElem?_cons_succ, List.getElem?_cons_zero]; rfl) (by kernel_rfl) (by kernel_rfl) (by kernel_rfl) (fun _ _ _ h => by exact h) (.inl ⟨by rfl, fun u hu => by go_simp; try with_reducible rfl⟩) HS.out ?_
  try simp only [List.getElem_toArray, List.getElem_cons_succ, List.getElem_cons_zero, Act.put, List.setIfInBounds_toArray, List.set_cons_zero, List.set_cons_succ]
  change wpAnyH _ _ _ _ _ (7 + 1) _ _ _
  refine wpAnyH_take (i := 1) (v := .string sd) (by simp only [List.getElem?_toArray, List.getElem?_cons_succ, List.getElem?_cons_zero]; rfl) (by kernel_rfl) (by kernel_rfl) (by kernel_rfl) (fun _ _ _ h => by exact h) (.inl ⟨by rfl, fun u hu => Hold.load1_run hu 0 rfl rfl rfl (H1.out) (Bkr.cellStr)⟩) HS.out ?_
  try simp only [List.getElem_toArray, List.getElem_cons_succ, List.getElem_cons_zero, Act.put, List.setIfInBounds_toArray, List.set_cons_zero, List.set_cons_succ]
  change wpAnyH _ _ _ _ _ (6 + 1) _ _ _
  refine wpAnyH_take (i := 2) (by simp only [List.getElem?_toArray, List.getElem?_cons_succ, List.getElem?_cons_zero]; rfl) (by kernel_rfl) (by kernel_rfl) (by kernel_rfl) (fun _ _ _ h => by exact h) (.inl ⟨by rfl, fun u hu => by go_simp; try with_reducible rfl⟩) HS.out ?_
  try simp only [List.getElem_toArray, List.getElem_cons_succ, List.getElem_cons_zero, Act.put, List.setIfInBounds_toArray, List.set_cons_zero, List.set_cons_succ]
  change wpAnyH _ _ _ _ _ (5 + 1) _ _ _
  refine wpAnyH_take (i := 4) (by simp only [List.getElem?_toArray, List.getElem?_cons_succ, List.getElem?_cons_zero]; rfl) (by kernel_rfl) (by kernel_rfl) (by kernel_rfl) (fun _ _ _ h => by exact h) (.inl ⟨by rfl, fun u hu => by go_simp; try with_reducible rfl⟩) HS.out ?_
  try simp only [List.getElem_toArray, List.getElem_cons_succ, List.getElem_cons_zero, Act.put, List.setIfInBounds_toArray, List.set_cons_zero, List.set_cons_succ]
  change wpAnyH _ _ _ _ _ (4 + 1) _ _ _
  refine wpAnyH_all (rs := [3]) (by kernel_rfl) (by simp) (fun j hj => ?_)
  obtain rfl : j = 3 := by simpa using hj
  refine Steady.call_any (i := 3) (by simp only [List.getElem?_toArray, List.getElem?_cons_succ, List.getElem?_cons_zero]; rfl) (by kernel_rfl) _ _ (by go_simp) (fun u w' => u = .string Ds ∧ Below _ _ w') ((Rs.out _ (HL.out.below HM.out.below)).mono (fun e w' hh => ⟨_, hh.1, rfl, hh.2⟩)) ?_
  rintro u w6 ⟨rfl, hb⟩
  replace HM := Lib.hid (HM.out.next hb)
  clear hb
  replace HS := Lib.hid (show Hold.Hld _ [⟨b1, 30, v⟩] _ from HM.out)
  refine ⟨HS.out, ?_⟩
  try simp only [List.getElem_toArray, List.getElem_cons_succ, List.getElem_cons_zero, Act.put, List.setIfInBounds_toArray, List.set_cons_zero, List.set_cons_succ]
  change wpAnyH _ _ _ _ _ (3 + 1) _ _ _
  refine wpAnyH_all (rs := [5]) (by kernel_rfl) (by simp) (fun j hj => ?_)
  obtain rfl : j = 5 := by simpa using hj
  refine Steady.call_any (i := 5) (by simp only [List.getElem?_toArray, List.getElem?_cons_succ, List.getElem?_cons_zero]; rfl) (by kernel_rfl) _ _ (by go_simp) (fun u w' => u = .string De ∧ Below _ _ w') ((Re.out _ (HL.out.below HM.out.below)).mono (fun e w' hh => ⟨_, hh.1, rfl, hh.2⟩)) ?_
  rintro u w6 ⟨rfl, hb⟩
  replace HM := Lib.hid (HM.out.next hb)
  clear hb
  replace HS := Lib.hid (show Hold.Hld _ [⟨b1, 30, v⟩] _ from HM.out)
  refine ⟨HS.out, ?_⟩
  try simp only [List.getElem_toArray, List.getElem_cons_succ, List.getElem_cons_zero, Act.put, List.setIfInBounds_toArray, List.set_cons_zero, List.set_cons_succ]
  change wpAnyH _ _ _ _ _ (2 + 1) _ _ _
  refine wpAnyH_all (rs := [6]) (by kernel_rfl) (by simp) (fun j hj => ?_)
  obtain rfl : j = 6 := by simpa using hj
  refine Hold.op_wp (by simp only [List.getElem?_toArray, List.getElem?_cons_succ, List.getElem?_cons_zero]; rfl) (by kernel_rfl) ?_
  go_simp
  replace HM := Lib.hid (HM.out.add 9 [.string ⟨#[115, 101, 114, 118, 101, 114]⟩, .string Ds, .string De])
  simp only [List.cons_append, List.nil_append] at HM
  replace HS := Lib.hid (show Hold.Hld _ [⟨b1, 30, v⟩] _ from Hold.Hld.front (m' := [_]) HM.out)
  refine ⟨HS.out, ?_⟩
  try simp only [List.getElem_toArray, List.getElem_cons_succ, List.getElem_cons_zero, Act.put, List.setIfInBounds_toArray, List.set_cons_zero, List.set_cons_succ]
  change wpAnyH _ _ _ _ _ (1 + 1) _ _ _
  refine wpAnyH_all (rs := [7]) (by kernel_rfl) (by simp) (fun j hj => ?_)
  obtain rfl : j = 7 := by simpa using hj
  refine Steady.call_any (i := 7) (by simp only [List.getElem?_toArray, List.getElem?_cons_succ, List.getElem?_cons_zero]; rfl) (by kernel_rfl) _ _ (by go_simp) (fun u w' => u = .string X ∧ Below _ _ w') ((RD.out _ _ (HM.out.at 1 rfl).lt ((HM.out.at 1 rfl).row.cell rfl) ((HM.out.at 1 rfl).row.cell rfl) ((HM.out.at 1 rfl).row.cell rfl) (HL.out.below HM.out.below)).mono (fun e w' hh => ⟨_, hh.1, rfl, hh.2⟩)) ?_
  rintro u w6 ⟨rfl, hb⟩
  replace HM := Lib.hid (HM.out.next hb)
  clear hb
  replace HS := Lib.hid (show Hold.Hld _ [⟨b1, 30, v⟩] _ from Hold.Hld.front (m' := [_]) HM.out)
  refine ⟨HS.out, ?_⟩
  try simp only [List.getElem_toArray, List.getElem_cons_succ, List.getElem_cons_zero, Act.put, List.setIfInBounds_toArray, List.set_cons_zero, List.set_cons_succ]
  change wpAnyH _ _ _ _ _ (0 + 1) _ _ _
  refine wpAnyH_take (i := 8) (by simp only [List.getElem?_toArray, List.getElem?_cons_succ, List.getElem?_cons_zero]; rfl) (by kernel_rfl) (by kernel_rfl) (by kernel_rfl) (fun _ _ _ h => by exact h) (.inl ⟨by rfl, fun u hu => by go_simp; try with_reducible rfl⟩) HS.out ?_
  try simp only [List.getElem_toArray, List.getElem_cons_succ, List.getElem_cons_zero, Act.put, List.setIfInBounds_toArray, List.set_cons_zero, List.set_cons_succ]
  refine wpAnyH_done (by kernel_rfl) ?_ _
  go_wp2
  go_ret
  exact ⟨rfl, HM.out.below⟩

set_option maxHeartbeats 1600000 in
theorem shared_any (A : Nat → Prop) (b : Bk) (v : List Value) (c s e : Int) (X : ByteArray) (w : World) (hX : X = shared b.seed c s e) (h : BkR w b v A) (hro : b.seed.length ≤ 1000) (cl : -9223372036854775808 ≤ c) (ch : c ≤ 9223372036854775807) (sl : -9223372036854775808 ≤ s) (sh : s ≤ 9223372036854775807) (el : -9223372036854775808 ≤ e) (eh : e ≤ 9223372036854775807) (hl : Laid w) :
    Calls Tryz.prog 18 #[.agg v.toArray, .int .i64 c, .int .i64 s, .int .i64 e] w fun r w' => r = .returned (.string X) ∧ Below w.heap.size w w' := by
  obtain ⟨w0, hw0⟩ : ∃ w0, w0 = w := ⟨w, rfl⟩
  subst hw0
  obtain ⟨SV, hSV⟩ : ∃ D, D = tx (server b.seed s e) := ⟨_, rfl⟩
  obtain ⟨SC, hSC⟩ : ∃ D, D = tx (secret b.seed c s e) := ⟨_, rfl⟩
  obtain ⟨PB, hPB⟩ : ∃ D, D = pub b.seed s e := ⟨_, rfl⟩
  have R1 := Lib.hid (fun u (hu : Below w0.heap.size w0 u) => server_any A b v s e SV u hSV (h.below hu) hro sl sh el eh (hl.below hu))
  have R2 := Lib.hid (fun u => show Calls Tryz.prog 21 #[.string SV] u fun r w' => r = .returned (.tuple #[.string PB, .int .i64 0]) ∧ Below u.heap.size u w' from by rw [hSV, hPB, ← public_is]; exact LadC.public_any _ u)
  have R3 := Lib.hid (fun u (hu : Below w0.heap.size w0 u) => secret_any A b v c s e SC u hSC (h.below hu) hro cl ch sl sh el eh (hl.below hu))
  obtain ⟨E, hE⟩ : ∃ E, E = sE SC PB := ⟨_, rfl⟩
  have hX2 : X = sT SC PB := by rw [hX, hSC, hPB]; rfl
  have R4 := Lib.hid (fun u => show Calls Tryz.prog 37 #[.string SC, .string PB] u fun r w' => r = .returned (.tuple #[.string X, .int .i64 E]) ∧ Below u.heap.size u w' from by rw [hX2, hE, ← sharedV_eq]; exact LadC.shared_any _ _ u)
  have HLEN := Lib.hid h.len
  have HM := Lib.hid (Hold.Hld.start w0)
  clear hX h hro cl ch sl sh el eh hSV hSC hPB hE hX2
  go_enter Tryz.func18, Tryz.ntmps18
  go_wp2_with ((first
    | ((with_reducible refine Hold.box HM.out rfl rfl rfl ?_); clear HM; intro b1 w HM; simp only [List.nil_append] at HM; replace HM := Lib.hid HM)
    | (with_reducible refine Hold.load HM.out 0 (cs := v) rfl rfl rfl rfl (Hold.Part.all _) (bkRowOf HLEN.out) ?_)
    | ((with_reducible refine (R1.out _ HM.out.below).mono ?_); rintro e w ⟨rfl, hb⟩; replace HM := Lib.hid (HM.out.next hb); clear hb)
    | ((with_reducible refine (R2.out _).mono ?_); rintro e w ⟨rfl, hb⟩; replace HM := Lib.hid (HM.out.next hb); clear hb)
    | ((with_reducible refine (R3.out _ HM.out.below).mono ?_); rintro e w ⟨rfl, hb⟩; replace HM := Lib.hid (HM.out.next hb); clear hb)
    | ((with_reducible refine (R4.out _).mono ?_); rintro e w ⟨rfl, hb⟩; replace HM := Lib.hid (HM.out.next hb); clear hb)))
  go_ret
  exact ⟨rfl, HM.out.below⟩

end Go.Proofs.YtolmfimpaofefaaGreatDoor.Pad
