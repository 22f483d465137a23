/-
  source and Cell of package book: what the plain mathematics of the text Bkm says; all memory that was there is left as it was. Conditions: the listed tables; short texts, few of each list.
-/
import Derived.Test.YtdhipdoaefdfeaaGreatDoorBkG
import Derived.Test.YtdhipdoaefdfeaaGreatDoorBkM
namespace Go.Proofs.YtdhipdoaefdfeaaGreatDoor.Bkb
open Go.RowKit Mur Prt Lanes Tap Bkl Bkm Rec Cel Bkr
set_option maxRecDepth 100000
set_option linter.unusedSimpArgs false

theorem derive_two (key t s : ByteArray) (n : Int) (X : ByteArray) (b : Nat) (w : World) (hkey : key.size ≤ 35184372088832) (ht : t.size ≤ 100) (hs : s.size ≤ 1000000) (hb : b < w.heap.size) (hc : w.cell? ⟨b, 0, none⟩ = some (.string t)) (hd : w.cell? ⟨b, 1, none⟩ = some (.string s)) (hX : X = tx (Ked.derive key.data.toList (Ked.many n) [t.data.toList, s.data.toList])) (hk : Sha.Consts w) :
    Calls Tryz.prog 44 #[.string key, .int .i64 n, .slice (some ⟨b, 0, none⟩) 2 2] w fun e w' => e = .returned (.string X) ∧ Below w.heap.size w w' := by
  refine Ked.derive_any key n [t, s] X (some ⟨b, 0, none⟩) b 0 2 w hkey (fun _ => ⟨rfl, hb⟩) ?_ (by show 2 ≤ _; omega) ?_ ?_ hX hk
  · intro i hi
    match i, hi with
    | 0, _ => exact hc
    | 1, _ => exact hd
  · show (Ked.infoOf [t.data.toList, s.data.toList]).length ≤ _
    have h1 : t.data.toList.length = t.size := rfl
    have h2 : s.data.toList.length = s.size := rfl
    simp only [Ked.infoOf, List.map_cons, List.map_nil, List.flatten_cons, List.flatten_nil, List.append_nil, List.length_append, Lanes.high, List.length_map, List.length_range]
    omega
  · intro x hx
    rcases List.mem_cons.1 hx with rfl | hx
    · omega
    · obtain rfl := List.mem_singleton.1 hx
      omega

set_option maxHeartbeats 1600000 in
theorem source_any (A : Nat → Prop) (b : Bk) (v : List Value) (name X : ByteArray) (n : Int) (w : World) (hX : X = tx (srcS b name.data.toList n)) (h : BkR w b v A) (hro : Room b 1000) (hs : name.size ≤ 1000000) (hl : Sha.Consts w) :
    Calls Tryz.prog 31 #[.agg v.toArray, .string name, .int .i64 n] w fun e w' => e = .returned (.string X) ∧ Below w.heap.size w w' := by
  obtain ⟨w0, hw0⟩ : ∃ w0, w0 = w := ⟨w, rfl⟩
  subst hw0
  have HM := Lib.hid (Hold.Hld.start w0)
  have H0 := Lib.hid h.at0
  have hsl : (tx b.seed).size ≤ 1000 := hro.seed
  by_cases hi : b.ideal = true
  · obtain ⟨a, k, c, h4, hk, -, hR, -⟩ := h.at4.lit
    have hkn : k ≤ 1000 := by have := hro.cells; omega
    obtain ⟨B, hB⟩ : ∃ B, B = (get b.cells name.data.toList).isSome := ⟨_, rfl⟩
    have hX2 : X = RTap.gotX (get b.cells name.data.toList) := by
      rw [hX, srcS, if_pos hi]
      cases get b.cells name.data.toList with
      | none => rfl
      | some s => rfl
    have R1 := Lib.hid (fun u (hu : Below w0.heap.size w0 u) => Tape.get_any (ofC b.cells) k a c name X B u (by rw [toC_ofC]; exact hX2) (by rw [toC_ofC]; exact hB) (CelR.below hR hu) (by rw [ofC_length]; exact hk) (by omega))
    have H4 := Lib.hid h4
    rw [hi] at H0
    clear h hro hs hl hX hX2 hB hR hk h4 hsl hi
    go_enter Tryz.func31, Tryz.ntmps31
    go_wp2_with ((first
      | ((with_reducible refine Hold.box HM.out rfl rfl rfl ?_); clear HM; intro b1 w HM; simp only [List.nil_append] at HM; replace HM := Lib.hid HM)
      | (with_reducible refine Hold.load1 HM.out 0 (c := .bool true) rfl rfl rfl rfl H0.out cellBool ?_)
      | (with_reducible refine Hold.load1 HM.out 0 (c := .slice a k c) rfl rfl rfl rfl H4.out cellC ?_)
      | ((with_reducible refine (R1.out _ HM.out.below).mono ?_); rintro e w ⟨rfl, hb⟩; replace HM := Lib.hid (HM.out.next hb); clear hb)))
    go_ret
    exact ⟨rfl, HM.out.below⟩
  · have hif : b.ideal = false := by simpa using hi
    have H1 := Lib.hid h.at1
    have hX2 : X = tx (Ked.derive (tx b.seed).data.toList (Ked.many n) [cellT, name.data.toList]) := by
      rw [hX, srcS, if_neg hi]
    have R1 := Lib.hid (fun (q : Nat) (u : World) (hq : q < u.heap.size) (hc : u.cell? ⟨q, 0, none⟩ = some (.string ⟨#[99, 101, 108, 108]⟩)) (hd : u.cell? ⟨q, 1, none⟩ = some (.string name)) (hu : Below w0.heap.size w0 u) => derive_two (tx b.seed) ⟨#[99, 101, 108, 108]⟩ name n X q u (by omega) (by decide) hs hq hc hd hX2 (hl.below hl.1 hu))
    rw [hif] at H0
    generalize tx b.seed = sd at *
    clear h hro hs hl hX hX2 hsl hi hif
    go_enter Tryz.func31, Tryz.ntmps31
    go_wp2_with ((first
      | ((with_reducible refine Hold.box HM.out rfl rfl rfl ?_); clear HM; intro b1 w HM; simp only [List.nil_append] at HM; replace HM := Lib.hid HM)
      | (with_reducible refine Hold.load1 HM.out 0 (c := .bool false) rfl rfl rfl rfl H0.out cellBool ?_)
      | (with_reducible refine Hold.load1 HM.out 0 (c := .string sd) rfl rfl rfl rfl H1.out Bkr.cellStr ?_)
      | ((refine (R1.out w.heap.size (w.alloc (.cells #[.string ⟨#[99, 101, 108, 108]⟩, .string name] 9)) (by simp) (by simp) (by simp) (HM.out.add 9 [.string ⟨#[99, 101, 108, 108]⟩, .string name]).below).mono ?_); rintro e w2 ⟨rfl, hb⟩; replace HM := Lib.hid ((HM.out.add 9 [.string ⟨#[99, 101, 108, 108]⟩, .string name]).next hb); clear hb)))
    go_ret
    exact ⟨rfl, HM.out.below⟩
end Go.Proofs.YtdhipdoaefdfeaaGreatDoor.Bkb
