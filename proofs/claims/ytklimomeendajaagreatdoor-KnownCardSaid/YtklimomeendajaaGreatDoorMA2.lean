import Derived.Test.YtklimomeendajaaGreatDoorProg
import Derived.Test.YtklimomeendajaaGreatDoorMA0
import Derived.Test.YtklimomeendajaaGreatDoorMA1
set_option linter.unusedVariables false
set_option linter.unusedSimpArgs false
namespace Go.Proofs.YtklimomeendajaaGreatDoor
open Go.RowKit

theorem ret_int {k : IntKind} {a b : Int} (h : a = b) : Ending.returned (.int k a) = .returned (.int k b) := by rw [h]
theorem ret_bool {a b : Bool} (h : a = b) : Ending.returned (.bool a) = .returned (.bool b) := by rw [h]

set_option maxHeartbeats 400000 in
theorem constant_any (k : Int) (w : World) :
    Calls Tryz.prog 258 #[.int .i64 k] w fun e w' => e = .returned (.int .i64 (constK k)) ∧ w' = w := by
  go_enter Tryz.func258, Tryz.ntmps258
  go_wp2
  all_goals
    go_ret
    exact ⟨ret_int (by simp_all [constK]), rfl⟩

set_option maxHeartbeats 400000 in
theorem comparison_any (k : Int) (w : World) :
    Calls Tryz.prog 164 #[.int .i64 k] w fun e w' => e = .returned (.int .i64 (cmpK k)) ∧ w' = w := by
  go_enter Tryz.func164, Tryz.ntmps164
  go_wp2
  all_goals
    go_ret
    exact ⟨ret_int (by simp_all [cmpK]), rfl⟩

set_option maxHeartbeats 400000 in
theorem addition_any (k : Int) (w : World) :
    Calls Tryz.prog 247 #[.int .i64 k] w fun e w' => e = .returned (.int .i64 (addK k)) ∧ w' = w := by
  go_enter Tryz.func247, Tryz.ntmps247
  go_wp2
  all_goals
    go_ret
    exact ⟨ret_int (by simp_all [addK]), rfl⟩

set_option maxHeartbeats 400000 in
theorem multiplication_any (k : Int) (w : World) :
    Calls Tryz.prog 260 #[.int .i64 k] w fun e w' => e = .returned (.int .i64 (mulK k)) ∧ w' = w := by
  go_enter Tryz.func260, Tryz.ntmps260
  go_wp2
  all_goals
    go_ret
    exact ⟨ret_int (by simp_all [mulK]), rfl⟩

set_option maxHeartbeats 400000 in
theorem prefix_any (k : Int) (w : World) :
    Calls Tryz.prog 266 #[.int .i64 k] w fun e w' => e = .returned (.int .i64 (preK k)) ∧ w' = w := by
  go_enter Tryz.func266, Tryz.ntmps266
  go_wp2
  all_goals
    go_ret
    exact ⟨ret_int (by simp_all [preK]), rfl⟩

set_option maxHeartbeats 400000 in
theorem oneWordAtom_any (k : Int) (w : World) :
    Calls Tryz.prog 275 #[.int .i64 k] w fun e w' => e = .returned (.int .i64 (atomK k)) ∧ w' = w := by
  go_enter Tryz.func275, Tryz.ntmps275
  go_wp2_with (go_at_call 258; refine (constant_any _ _).mono ?_; rintro e w' ⟨rfl, rfl⟩)
  all_goals
    go_ret
    exact ⟨ret_int (by simp_all [atomK]), rfl⟩

set_option maxHeartbeats 400000 in
theorem beginsAtom_any (k : Int) (w : World) :
    Calls Tryz.prog 276 #[.int .i64 k] w fun e w' => e = .returned (.bool (begA k)) ∧ w' = w := by
  go_enter Tryz.func276, Tryz.ntmps276
  go_wp2_with (go_at_call 275; refine (oneWordAtom_any _ _).mono ?_; rintro e w' ⟨rfl, rfl⟩)
  all_goals
    go_ret
    exact ⟨ret_bool (by simp_all [begA, bne]), rfl⟩

end Go.Proofs.YtklimomeendajaaGreatDoor
