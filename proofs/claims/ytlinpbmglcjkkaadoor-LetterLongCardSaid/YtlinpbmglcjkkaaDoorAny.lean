/-
  Type assertions of the statements of layer 14, and of a switch over types: a value is of the type that is asked for, or it isn't. No condition but that.
-/
import Derived.Test.YtlinpbmglcjkkaaDoorChecked
import Derived.KernelRfl
import Derived.WalkKit
namespace Go.Proofs.YtlinpbmglcjkkaaDoor.Any
set_option maxRecDepth 100000

theorem yesCast (v : Value) (W : World) : (Instr.typeAssert (.iface 27 v) 20 27 true).run Tryd.prog W = .ok (.tuple #[v, .bool true]) W := by kernel_rfl
theorem zeroCast (W : World) : (do pure (Value.tuple #[← zeroValue 27, .bool false]) : Sem Value).run Tryd.prog W = .ok (.tuple #[.agg #[.string ⟨#[]⟩], .bool false]) W := by kernel_rfl
theorem noCast (u : TypeId) (v : Value) (h : u ≠ 27) (W : World) : (Instr.typeAssert (.iface u v) 20 27 true).run Tryd.prog W = .ok (.tuple #[.agg #[.string ⟨#[]⟩], .bool false]) W := by
  have e : (Instr.typeAssert (.iface u v) 20 27 true).run Tryd.prog W = (if u = 27 then (pure (Value.tuple #[v, .bool true]) : Sem Value) else (do pure (Value.tuple #[← zeroValue 27, .bool false]))).run Tryd.prog W := by kernel_rfl
  rw [e, if_neg h]
  exact zeroCast W
theorem nilCast (W : World) : (Instr.typeAssert .nilIface 20 27 true).run Tryd.prog W = .ok (.tuple #[.agg #[.string ⟨#[]⟩], .bool false]) W := by kernel_rfl
theorem yesList (v : Value) (W : World) : (Instr.typeAssert (.iface 29 v) 20 29 true).run Tryd.prog W = .ok (.tuple #[v, .bool true]) W := by kernel_rfl
theorem zeroList (W : World) : (do pure (Value.tuple #[← zeroValue 29, .bool false]) : Sem Value).run Tryd.prog W = .ok (.tuple #[.agg #[.slice none 0 0, .int .i64 0], .bool false]) W := by kernel_rfl
theorem noList (u : TypeId) (v : Value) (h : u ≠ 29) (W : World) : (Instr.typeAssert (.iface u v) 20 29 true).run Tryd.prog W = .ok (.tuple #[.agg #[.slice none 0 0, .int .i64 0], .bool false]) W := by
  have e : (Instr.typeAssert (.iface u v) 20 29 true).run Tryd.prog W = (if u = 29 then (pure (Value.tuple #[v, .bool true]) : Sem Value) else (do pure (Value.tuple #[← zeroValue 29, .bool false]))).run Tryd.prog W := by kernel_rfl
  rw [e, if_neg h]
  exact zeroList W
theorem nilList (W : World) : (Instr.typeAssert .nilIface 20 29 true).run Tryd.prog W = .ok (.tuple #[.agg #[.slice none 0 0, .int .i64 0], .bool false]) W := by kernel_rfl
theorem yesPledge (v : Value) (W : World) : (Instr.typeAssert (.iface 31 v) 20 31 true).run Tryd.prog W = .ok (.tuple #[v, .bool true]) W := by kernel_rfl
theorem zeroPledge (W : World) : (do pure (Value.tuple #[← zeroValue 31, .bool false]) : Sem Value).run Tryd.prog W = .ok (.tuple #[.agg #[.string ⟨#[]⟩], .bool false]) W := by kernel_rfl
theorem noPledge (u : TypeId) (v : Value) (h : u ≠ 31) (W : World) : (Instr.typeAssert (.iface u v) 20 31 true).run Tryd.prog W = .ok (.tuple #[.agg #[.string ⟨#[]⟩], .bool false]) W := by
  have e : (Instr.typeAssert (.iface u v) 20 31 true).run Tryd.prog W = (if u = 31 then (pure (Value.tuple #[v, .bool true]) : Sem Value) else (do pure (Value.tuple #[← zeroValue 31, .bool false]))).run Tryd.prog W := by kernel_rfl
  rw [e, if_neg h]
  exact zeroPledge W
theorem nilPledge (W : World) : (Instr.typeAssert .nilIface 20 31 true).run Tryd.prog W = .ok (.tuple #[.agg #[.string ⟨#[]⟩], .bool false]) W := by kernel_rfl
theorem yesShare (v : Value) (W : World) : (Instr.typeAssert (.iface 33 v) 20 33 true).run Tryd.prog W = .ok (.tuple #[v, .bool true]) W := by kernel_rfl
theorem zeroShare (W : World) : (do pure (Value.tuple #[← zeroValue 33, .bool false]) : Sem Value).run Tryd.prog W = .ok (.tuple #[.agg #[.string ⟨#[]⟩, .slice none 0 0], .bool false]) W := by kernel_rfl
theorem noShare (u : TypeId) (v : Value) (h : u ≠ 33) (W : World) : (Instr.typeAssert (.iface u v) 20 33 true).run Tryd.prog W = .ok (.tuple #[.agg #[.string ⟨#[]⟩, .slice none 0 0], .bool false]) W := by
  have e : (Instr.typeAssert (.iface u v) 20 33 true).run Tryd.prog W = (if u = 33 then (pure (Value.tuple #[v, .bool true]) : Sem Value) else (do pure (Value.tuple #[← zeroValue 33, .bool false]))).run Tryd.prog W := by kernel_rfl
  rw [e, if_neg h]
  exact zeroShare W
theorem nilShare (W : World) : (Instr.typeAssert .nilIface 20 33 true).run Tryd.prog W = .ok (.tuple #[.agg #[.string ⟨#[]⟩, .slice none 0 0], .bool false]) W := by kernel_rfl
theorem yesCert (v : Value) (W : World) : (Instr.typeAssert (.iface 35 v) 20 35 true).run Tryd.prog W = .ok (.tuple #[v, .bool true]) W := by kernel_rfl
theorem zeroCert (W : World) : (do pure (Value.tuple #[← zeroValue 35, .bool false]) : Sem Value).run Tryd.prog W = .ok (.tuple #[.agg #[.string ⟨#[]⟩, .slice none 0 0, .int .i64 0], .bool false]) W := by kernel_rfl
theorem noCert (u : TypeId) (v : Value) (h : u ≠ 35) (W : World) : (Instr.typeAssert (.iface u v) 20 35 true).run Tryd.prog W = .ok (.tuple #[.agg #[.string ⟨#[]⟩, .slice none 0 0, .int .i64 0], .bool false]) W := by
  have e : (Instr.typeAssert (.iface u v) 20 35 true).run Tryd.prog W = (if u = 35 then (pure (Value.tuple #[v, .bool true]) : Sem Value) else (do pure (Value.tuple #[← zeroValue 35, .bool false]))).run Tryd.prog W := by kernel_rfl
  rw [e, if_neg h]
  exact zeroCert W
theorem nilCert (W : World) : (Instr.typeAssert .nilIface 20 35 true).run Tryd.prog W = .ok (.tuple #[.agg #[.string ⟨#[]⟩, .slice none 0 0, .int .i64 0], .bool false]) W := by kernel_rfl
theorem yesOut (v : Value) (W : World) : (Instr.typeAssert (.iface 37 v) 20 37 true).run Tryd.prog W = .ok (.tuple #[v, .bool true]) W := by kernel_rfl
theorem zeroOut (W : World) : (do pure (Value.tuple #[← zeroValue 37, .bool false]) : Sem Value).run Tryd.prog W = .ok (.tuple #[.agg #[.slice none 0 0], .bool false]) W := by kernel_rfl
theorem noOut (u : TypeId) (v : Value) (h : u ≠ 37) (W : World) : (Instr.typeAssert (.iface u v) 20 37 true).run Tryd.prog W = .ok (.tuple #[.agg #[.slice none 0 0], .bool false]) W := by
  have e : (Instr.typeAssert (.iface u v) 20 37 true).run Tryd.prog W = (if u = 37 then (pure (Value.tuple #[v, .bool true]) : Sem Value) else (do pure (Value.tuple #[← zeroValue 37, .bool false]))).run Tryd.prog W := by kernel_rfl
  rw [e, if_neg h]
  exact zeroOut W
theorem nilOut (W : World) : (Instr.typeAssert .nilIface 20 37 true).run Tryd.prog W = .ok (.tuple #[.agg #[.slice none 0 0], .bool false]) W := by kernel_rfl
end Go.Proofs.YtlinpbmglcjkkaaDoor.Any
