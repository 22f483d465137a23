/-
  The document's own answers for Name of layer 14. No condition.
-/
import Derived.Test.YtlinpbmglcjkkaaDoorRLetC
namespace Go.Proofs.YtlinpbmglcjkkaaDoor.RLet
open Go.RowKit Mur Prt Lanes Cod Let
set_option maxRecDepth 100000

/-- The name of a kind. -/
def nameB (k : Int) : ByteArray := if k = 1 then ⟨#[99, 97, 115, 116]⟩ else if k = 2 then ⟨#[108, 105, 115, 116]⟩ else if k = 3 then ⟨#[112, 108, 101, 100, 103, 101]⟩ else if k = 4 then ⟨#[115, 104, 97, 114, 101]⟩ else if k = 5 then ⟨#[99, 101, 114, 116]⟩ else if k = 6 then ⟨#[111, 117, 116]⟩ else ⟨#[]⟩
set_option maxHeartbeats 1600000 in
theorem name_any (k : Int) (N : ByteArray) (w : World) (hN : N = nameB k) :
    Calls Tryd.prog 10 #[.int .i64 k] w fun e w' => e = .returned (.string N) ∧ w = w' := by
  by_cases h1 : k = 1
  case pos =>
    subst h1
    obtain rfl : N = ⟨#[99, 97, 115, 116]⟩ := hN
    go_enter Tryd.func10, Tryd.ntmps10
    go_wp2
    go_ret
    exact ⟨rfl, rfl⟩
  have d1 : (k == 1) = false := by simp [h1]
  by_cases h2 : k = 2
  case pos =>
    subst h2
    obtain rfl : N = ⟨#[108, 105, 115, 116]⟩ := hN
    clear h1
    go_enter Tryd.func10, Tryd.ntmps10
    go_wp2
    go_ret
    exact ⟨rfl, rfl⟩
  have d2 : (k == 2) = false := by simp [h2]
  by_cases h3 : k = 3
  case pos =>
    subst h3
    obtain rfl : N = ⟨#[112, 108, 101, 100, 103, 101]⟩ := hN
    clear h1 h2
    go_enter Tryd.func10, Tryd.ntmps10
    go_wp2
    go_ret
    exact ⟨rfl, rfl⟩
  have d3 : (k == 3) = false := by simp [h3]
  by_cases h4 : k = 4
  case pos =>
    subst h4
    obtain rfl : N = ⟨#[115, 104, 97, 114, 101]⟩ := hN
    clear h1 h2 h3
    go_enter Tryd.func10, Tryd.ntmps10
    go_wp2
    go_ret
    exact ⟨rfl, rfl⟩
  have d4 : (k == 4) = false := by simp [h4]
  by_cases h5 : k = 5
  case pos =>
    subst h5
    obtain rfl : N = ⟨#[99, 101, 114, 116]⟩ := hN
    clear h1 h2 h3 h4
    go_enter Tryd.func10, Tryd.ntmps10
    go_wp2
    go_ret
    exact ⟨rfl, rfl⟩
  have d5 : (k == 5) = false := by simp [h5]
  by_cases h6 : k = 6
  case pos =>
    subst h6
    obtain rfl : N = ⟨#[111, 117, 116]⟩ := hN
    clear h1 h2 h3 h4 h5
    go_enter Tryd.func10, Tryd.ntmps10
    go_wp2
    go_ret
    exact ⟨rfl, rfl⟩
  have d6 : (k == 6) = false := by simp [h6]
  obtain rfl : N = ⟨#[]⟩ := by rw [hN, nameB, if_neg h1, if_neg h2, if_neg h3, if_neg h4, if_neg h5, if_neg h6]
  clear hN h1 h2 h3 h4 h5 h6
  go_enter Tryd.func10, Tryd.ntmps10
  go_wp2
  go_ret
  exact ⟨rfl, rfl⟩
end Go.Proofs.YtlinpbmglcjkkaaDoor.RLet
