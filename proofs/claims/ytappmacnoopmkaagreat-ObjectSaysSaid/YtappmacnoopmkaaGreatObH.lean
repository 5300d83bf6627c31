/- Objects: what an object says: its first words. -/
import Derived.Test.YtappmacnoopmkaaGreatObG
import Derived.Laws.CopyOwn
import Derived.Deep.RegionLaw
namespace Go.Proofs.YtappmacnoopmkaaGreat
set_option linter.unusedVariables false
open Go.RowKit

theorem wordInfo : (Tryz.prog.info? 2).map (fun i => (i.zero, i.size, i.bytes)) = some (some (.int .i64 0), 1, 8) := by kernel_rfl
theorem need_either (k : Int) (w : World) : Calls Tryz.prog 88 #[.bool false, .int .i64 k] w fun e w' => (e = .returned (.tuple #[]) ∧ w = w' ∧ Hid False) ∨ (e = errPanic k ∧ w = w') := (need_no k w).mono fun _ _ ⟨h1, h2⟩ => .inr ⟨h1, h2⟩
theorem first7 (ws : List Int) : splice (List.replicate 7 (Value.int .i64 0)) 0 ((ws.take 7).map (fun n => Value.int .i64 n)) = [.int .i64 (av ws 0), .int .i64 (av ws 1), .int .i64 (av ws 2), .int .i64 (av ws 3), .int .i64 (av ws 4), .int .i64 (av ws 5), .int .i64 (av ws 6)] := by
  match ws with
  | [] | [_] | [_, _] | [_, _, _] | [_, _, _, _] | [_, _, _, _, _] | [_, _, _, _, _, _] | _ :: _ :: _ :: _ :: _ :: _ :: _ :: _ => simp [splice, av, List.replicate]
end Go.Proofs.YtappmacnoopmkaaGreat
