/-
  Type assertions of the statements of layer 14, and of a switch over types: a value is of the type that is asked for, or it isn't. No condition but that.
-/
import Derived.Test.YtlinpbmglcjkkaaChecked
import Derived.KernelRfl
import Derived.WalkKit
namespace Go.Proofs.Ytlinpbmglcjkkaa.Any
set_option maxRecDepth 100000

theorem yesCast (v : Value) (W : World) : (Instr.typeAssert (.iface 30 v) 20 30 true).run Try.prog W = .ok (.tuple #[v, .bool true]) W := by kernel_rfl
theorem zeroCast (W : World) : (do pure (Value.tuple #[← zeroValue 30, .bool false]) : Sem Value).run Try.prog W = .ok (.tuple #[.agg #[.string ⟨#[]⟩], .bool false]) W := by kernel_rfl
theorem noCast (u : TypeId) (v : Value) (h : u ≠ 30) (W : World) : (Instr.typeAssert (.iface u v) 20 30 true).run Try.prog W = .ok (.tuple #[.agg #[.string ⟨#[]⟩], .bool false]) W := by
  have e : (Instr.typeAssert (.iface u v) 20 30 true).run Try.prog W = (if u = 30 then (pure (Value.tuple #[v, .bool true]) : Sem Value) else (do pure (Value.tuple #[← zeroValue 30, .bool false]))).run Try.prog W := by kernel_rfl
  rw [e, if_neg h]
  exact zeroCast W
theorem nilCast (W : World) : (Instr.typeAssert .nilIface 20 30 true).run Try.prog W = .ok (.tuple #[.agg #[.string ⟨#[]⟩], .bool false]) W := by kernel_rfl
theorem yesList (v : Value) (W : World) : (Instr.typeAssert (.iface 33 v) 20 33 true).run Try.prog W = .ok (.tuple #[v, .bool true]) W := by kernel_rfl
theorem zeroList (W : World) : (do pure (Value.tuple #[← zeroValue 33, .bool false]) : Sem Value).run Try.prog W = .ok (.tuple #[.agg #[.slice none 0 0, .int .i64 0], .bool false]) W := by kernel_rfl
theorem noList (u : TypeId) (v : Value) (h : u ≠ 33) (W : World) : (Instr.typeAssert (.iface u v) 20 33 true).run Try.prog W = .ok (.tuple #[.agg #[.slice none 0 0, .int .i64 0], .bool false]) W := by
  have e : (Instr.typeAssert (.iface u v) 20 33 true).run Try.prog W = (if u = 33 then (pure (Value.tuple #[v, .bool true]) : Sem Value) else (do pure (Value.tuple #[← zeroValue 33, .bool false]))).run Try.prog W := by kernel_rfl
  rw [e, if_neg h]
  exact zeroList W
theorem nilList (W : World) : (Instr.typeAssert .nilIface 20 33 true).run Try.prog W = .ok (.tuple #[.agg #[.slice none 0 0, .int .i64 0], .bool false]) W := by kernel_rfl
theorem yesPledge (v : Value) (W : World) : (Instr.typeAssert (.iface 36 v) 20 36 true).run Try.prog W = .ok (.tuple #[v, .bool true]) W := by kernel_rfl
theorem zeroPledge (W : World) : (do pure (Value.tuple #[← zeroValue 36, .bool false]) : Sem Value).run Try.prog W = .ok (.tuple #[.agg #[.string ⟨#[]⟩], .bool false]) W := by kernel_rfl
theorem noPledge (u : TypeId) (v : Value) (h : u ≠ 36) (W : World) : (Instr.typeAssert (.iface u v) 20 36 true).run Try.prog W = .ok (.tuple #[.agg #[.string ⟨#[]⟩], .bool false]) W := by
  have e : (Instr.typeAssert (.iface u v) 20 36 true).run Try.prog W = (if u = 36 then (pure (Value.tuple #[v, .bool true]) : Sem Value) else (do pure (Value.tuple #[← zeroValue 36, .bool false]))).run Try.prog W := by kernel_rfl
  rw [e, if_neg h]
  exact zeroPledge W
theorem nilPledge (W : World) : (Instr.typeAssert .nilIface 20 36 true).run Try.prog W = .ok (.tuple #[.agg #[.string ⟨#[]⟩], .bool false]) W := by kernel_rfl
theorem yesShare (v : Value) (W : World) : (Instr.typeAssert (.iface 39 v) 20 39 true).run Try.prog W = .ok (.tuple #[v, .bool true]) W := by kernel_rfl
theorem zeroShare (W : World) : (do pure (Value.tuple #[← zeroValue 39, .bool false]) : Sem Value).run Try.prog W = .ok (.tuple #[.agg #[.string ⟨#[]⟩, .slice none 0 0], .bool false]) W := by kernel_rfl
theorem noShare (u : TypeId) (v : Value) (h : u ≠ 39) (W : World) : (Instr.typeAssert (.iface u v) 20 39 true).run Try.prog W = .ok (.tuple #[.agg #[.string ⟨#[]⟩, .slice none 0 0], .bool false]) W := by
  have e : (Instr.typeAssert (.iface u v) 20 39 true).run Try.prog W = (if u = 39 then (pure (Value.tuple #[v, .bool true]) : Sem Value) else (do pure (Value.tuple #[← zeroValue 39, .bool false]))).run Try.prog W := by kernel_rfl
  rw [e, if_neg h]
  exact zeroShare W
theorem nilShare (W : World) : (Instr.typeAssert .nilIface 20 39 true).run Try.prog W = .ok (.tuple #[.agg #[.string ⟨#[]⟩, .slice none 0 0], .bool false]) W := by kernel_rfl
theorem yesCert (v : Value) (W : World) : (Instr.typeAssert (.iface 42 v) 20 42 true).run Try.prog W = .ok (.tuple #[v, .bool true]) W := by kernel_rfl
theorem zeroCert (W : World) : (do pure (Value.tuple #[← zeroValue 42, .bool false]) : Sem Value).run Try.prog W = .ok (.tuple #[.agg #[.string ⟨#[]⟩, .slice none 0 0, .int .i64 0], .bool false]) W := by kernel_rfl
theorem noCert (u : TypeId) (v : Value) (h : u ≠ 42) (W : World) : (Instr.typeAssert (.iface u v) 20 42 true).run Try.prog W = .ok (.tuple #[.agg #[.string ⟨#[]⟩, .slice none 0 0, .int .i64 0], .bool false]) W := by
  have e : (Instr.typeAssert (.iface u v) 20 42 true).run Try.prog W = (if u = 42 then (pure (Value.tuple #[v, .bool true]) : Sem Value) else (do pure (Value.tuple #[← zeroValue 42, .bool false]))).run Try.prog W := by kernel_rfl
  rw [e, if_neg h]
  exact zeroCert W
theorem nilCert (W : World) : (Instr.typeAssert .nilIface 20 42 true).run Try.prog W = .ok (.tuple #[.agg #[.string ⟨#[]⟩, .slice none 0 0, .int .i64 0], .bool false]) W := by kernel_rfl
theorem yesOut (v : Value) (W : World) : (Instr.typeAssert (.iface 45 v) 20 45 true).run Try.prog W = .ok (.tuple #[v, .bool true]) W := by kernel_rfl
theorem zeroOut (W : World) : (do pure (Value.tuple #[← zeroValue 45, .bool false]) : Sem Value).run Try.prog W = .ok (.tuple #[.agg #[.slice none 0 0], .bool false]) W := by kernel_rfl
theorem noOut (u : TypeId) (v : Value) (h : u ≠ 45) (W : World) : (Instr.typeAssert (.iface u v) 20 45 true).run Try.prog W = .ok (.tuple #[.agg #[.slice none 0 0], .bool false]) W := by
  have e : (Instr.typeAssert (.iface u v) 20 45 true).run Try.prog W = (if u = 45 then (pure (Value.tuple #[v, .bool true]) : Sem Value) else (do pure (Value.tuple #[← zeroValue 45, .bool false]))).run Try.prog W := by kernel_rfl
  rw [e, if_neg h]
  exact zeroOut W
theorem nilOut (W : World) : (Instr.typeAssert .nilIface 20 45 true).run Try.prog W = .ok (.tuple #[.agg #[.slice none 0 0], .bool false]) W := by kernel_rfl
end Go.Proofs.Ytlinpbmglcjkkaa.Any
