/-
  The document's own answers for books of layer 16 (New, Cell) are what the plain mathematics of the text Bkm says; all memory that was there is left as it was. Conditions: few cells, short texts.
-/
import Derived.Test.YtolmfimpaofefaaGreatDoorRPadB
import Derived.Test.YtolmfimpaofefaaGreatDoorMTap
namespace Go.Proofs.YtolmfimpaofefaaGreatDoor.RPad
open Go.RowKit Mur Prt Lanes Tap Bkl Bkm Rec Cel Bkr Bkb Pad
set_option maxRecDepth 100000
set_option linter.unusedSimpArgs false

theorem ref_right (w : World) : Calls Tryz.prog 23 #[.agg #[.int .i64 2, .int .i64 1]] w fun e w' => e = .returned (.bool true) ∧ Below w.heap.size w w' := by
  have := RefChn.right_any 2 1 w
  rwa [decide_eq_true right21] at this
theorem newV_at4 (ideal : Bool) (seed : ByteArray) (a : Option Addr) (n c : Nat) : (newV ideal seed a n c)[4]? = some (.slice a n c) := rfl

set_option maxHeartbeats 1600000 in
theorem new_ref (ideal : Bool) (seed : ByteArray) (l : List K) (n : Nat) (a : Option Addr) (c : Nat) (b : Bk) (w : World) (hb : b = newB ideal seed.data.toList (toC l)) (ha : CelR w a l) (hn : l.length = n) (hn2 : n ≤ 1000) (_ : n ≤ c) :
    Calls Tryz.prog 7 #[.bool ideal, .string seed, .agg #[.int .i64 2, .int .i64 1], .slice a n c] w fun e w' => ∃ v, e = .returned (.tuple #[.agg v.toArray, .int .i64 0]) ∧ BkR w' b v (fun k => w.heap.size ≤ k) ∧ Below w.heap.size w w' := by
  have hbu : ∀ i : Bool, Tryz.prog.built 30 [(0, .bool i), (1, .string seed), (2, .agg shV.toArray)] = some (newV i seed none 0 0).toArray := fun i => by kernel_rfl
  have R1 := Lib.hid (fun u => ref_right u)
  have HA := Lib.hid (fun u (hu : Below w.heap.size w u) => cel_rec (ha.below hu))
  have HM := Lib.hid (Hold.Hld.start w)
  have HN := Lib.hid hn
  have hsh : (Value.agg #[.int .i64 2, .int .i64 1]) = .agg shV.toArray := rfl
  have HBU := Lib.hid hbu
  have HB := Lib.hid hb
  clear hn ha hbu hb
  rw [hsh] at R1 ⊢
  cases ideal with
  | false =>
    go_enter Tryz.func7, Tryz.ntmps7
    go_wp2_with ((first
      | (with_reducible refine Hold.box HM.out rfl rfl rfl ?_; clear HM; intro b1 w HM; simp only [List.nil_append] at HM; replace HM := Lib.hid HM)
      | (with_reducible refine Hold.alloc HM.out rfl rfl zeroBk zero_bk ?_; clear HM; intro b2 w HM; simp only [List.nil_append, List.cons_append] at HM; replace HM := Lib.hid HM)
      | (with_reducible refine Hold.load HM.out 0 (cs := shV) rfl rfl rfl rfl (Hold.Part.all _) shV_row ?_)
      | ((with_reducible refine (R1.out _).mono ?_); rintro e w ⟨rfl, hb⟩; replace HM := Lib.hid (HM.out.next hb); clear hb)
      | ((refine Hold.build (t := 30) (parts := #[(0, .tmp 15), (1, .tmp 16), (2, .tmp 17)]) (cs := newV false seed none 0 0) rfl rfl ?_ ?_); focus (exact HBU.out false))
      | (with_reducible refine Hold.store HM.out 2 (v' := newV false seed none 0 0) rfl rfl rfl rfl rfl (bkFits (newV_len _ _ _ _ _) zero_len) (bkLaid (newV_len _ _ _ _ _) zero_len) (newV_one _ _ _ _ _) (newV_row _ _ _ _ _) ?_; clear HM; intro w HM; simp only [List.set_cons_zero, List.set_cons_succ] at HM; replace HM := Lib.hid HM)
      | (with_reducible refine Hold.load HM.out 2 (cs := newV false seed none 0 0) rfl rfl rfl rfl (Hold.Part.all _) (newV_row _ _ _ _ _) ?_)
      | (with_reducible refine Hold.store HM.out 1 (v' := newV false seed none 0 0) rfl rfl rfl rfl rfl (bkFits (newV_len _ _ _ _ _) zero_len) (bkLaid (newV_len _ _ _ _ _) zero_len) (newV_one _ _ _ _ _) (newV_row _ _ _ _ _) ?_; clear HM; intro w HM; simp only [List.set_cons_zero, List.set_cons_succ] at HM; replace HM := Lib.hid HM)))
    refine bodyPost_ret (Hold.resultsCT HM.out 1 rfl _ rfl rfl rfl (newV_row _ _ _ _ _)) rfl ?_
    refine ⟨newV false seed none 0 0, rfl, ?_, HM.out.below⟩
    rw [HB.out]
    exact new_bk false seed _ none 0 0 (nil_cel _ _)
  | true =>
    have HV : Hid (BkR w ⟨true, seed.data.toList, [], [], [], [], [], [], []⟩ (newV true seed none 0 0) (In (fun k => w.heap.size ≤ k) [])) := Lib.hid ((new_bk true seed [] none 0 0 (nil_cel (fun _ => False) w)).mono fun k _ hk => hk.elim)
    have HSZ := Lib.hid (fun (u : World) (hu : Below w.heap.size w u) (k : Nat) (hk : u.heap.size ≤ k) => Nat.le_trans hu.size hk)
    go_enter Tryz.func7, Tryz.ntmps7
    go_wp2_with ((first
      | ((with_reducible refine Hold.boxK HM.out rfl rfl rfl ?_); clear HM; intro b1 w hn hb HM; simp only [List.nil_append] at HM; replace HM := Lib.hid HM; replace HV := Lib.hid (HV.out.allocA (t := 26) (z := shV) hn hb); clear hn hb)
      | ((with_reducible refine Hold.allocK HM.out rfl rfl zeroBk zero_bk ?_); clear HM; intro b2 w hn hb HM; simp only [List.nil_append, List.cons_append] at HM; replace HM := Lib.hid HM; replace HV := Lib.hid (HV.out.allocA (t := 30) (z := zeroBk) hn hb); clear hn hb)
      | (with_reducible refine Hold.load HM.out 0 (cs := shV) rfl rfl rfl rfl (Hold.Part.all _) shV_row ?_)
      | ((with_reducible refine (R1.out _).mono ?_); rintro e w ⟨rfl, hb⟩; replace HM := Lib.hid (HM.out.next hb); replace HV := Lib.hid (HV.out.below hb); clear hb)
      | ((refine Hold.build (t := 30) (parts := #[(0, .tmp 15), (1, .tmp 16), (2, .tmp 17)]) (cs := newV true seed none 0 0) rfl rfl ?_ ?_); focus (exact HBU.out true))
      | ((with_reducible refine Hold.storeK HM.out 2 (v' := newV true seed none 0 0) rfl rfl rfl rfl rfl (bkFits (newV_len _ _ _ _ _) zero_len) (bkLaid (newV_len _ _ _ _ _) zero_len) (newV_one _ _ _ _ _) (newV_row _ _ _ _ _) ?_); clear HM; intro w hbt HM; simp only [List.set_cons_zero, List.set_cons_succ] at HM; replace HM := Lib.hid HM; replace HV := Lib.hid (HV.out.storedA (i := 2) (z' := newV true seed none 0 0) rfl hbt); clear hbt)
      | (with_reducible refine Hold.load1 HM.out 2 (c := .slice none 0 0) rfl rfl rfl rfl (newV_at4 _ _ _ _ _) cellC ?_)
      | (at_builtin; refine append_rec celK cel_zero rfl _ _ rfl w.heap.size 0 _ [] l _ n c rfl rfl (own_start _ _ _) (HA.out _ HM.out.below) HN.out (by omega) (by first | exact HM.out.below.size | exact Nat.le_refl _) ?_; intro v' w4 hown4 hgrow4; rw [List.nil_append, Nat.zero_add] at hown4; have hb := (Below.refl _ _).grown hgrow4 (Nat.le_refl _) (fun q hq => by cases hq); obtain ⟨ao, co, rfl, -, hco, hi, hlow⟩ := own_rec celK.len celK.pos hown4; replace HV := Lib.hid ((HV.out.below hb).set4 (lies_newA HM.out (HSZ.out _ HM.out.below) (R := CelRb) (by show CelR _ _ (ofC (toC l)); rw [ofC_toC]; exact rec_cel hi) (by rw [toC_length]; exact HN.out) hco hlow)); clear hlow hi hco hown4 hgrow4; replace HM := Lib.hid (HM.out.next hb); clear hb)
      | ((with_reducible refine Hold.store1K HM.out 2 (c := .slice ao n co) (v' := newV true seed ao n co) rfl rfl rfl rfl rfl (by rw [newV_len]; decide) (newV_set _ _ _ _ _) (Hold.cell_sl _ _ _) cellC ?_); clear HM; intro w hbt HM; simp only [List.set_cons_zero, List.set_cons_succ] at HM; replace HM := Lib.hid HM; replace HV := Lib.hid (HV.out.storedA (i := 2) (z' := newV true seed ao n co) rfl hbt); clear hbt)
      | (with_reducible refine Hold.load HM.out 2 (cs := newV true seed ao n co) rfl rfl rfl rfl (Hold.Part.all _) (newV_row _ _ _ _ _) ?_)
      | ((with_reducible refine Hold.storeK HM.out 1 (v' := newV true seed ao n co) rfl rfl rfl rfl rfl (bkFits (newV_len _ _ _ _ _) zero_len) (bkLaid (newV_len _ _ _ _ _) zero_len) (newV_one _ _ _ _ _) (newV_row _ _ _ _ _) ?_); clear HM; intro w hbt HM; simp only [List.set_cons_zero, List.set_cons_succ] at HM; replace HM := Lib.hid HM; replace HV := Lib.hid (HV.out.storedA (i := 1) (z' := newV true seed ao n co) rfl hbt); clear hbt)))
    refine bodyPost_ret (Hold.resultsCT HM.out 1 rfl _ rfl rfl rfl (newV_row _ _ _ _ _)) rfl ?_
    refine ⟨newV true seed ao n co, rfl, ?_, HM.out.below⟩
    rw [HB.out]
    exact HV.out.doneA
end Go.Proofs.YtolmfimpaofefaaGreatDoor.RPad
