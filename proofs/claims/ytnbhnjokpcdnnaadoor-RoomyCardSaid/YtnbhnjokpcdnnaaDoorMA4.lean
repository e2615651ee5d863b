import Derived.Test.YtnbhnjokpcdnnaaDoorMA3
set_option linter.unusedVariables false
set_option linter.unusedSimpArgs false
namespace Go.Proofs.YtnbhnjokpcdnnaaDoor
open Go.RowKit
attribute [local go_sem] fieldWord0 fieldWord1

set_option maxHeartbeats 800000 in
set_option maxRecDepth 100000 in
theorem w_exp (ws : List (Int × Int)) (R : Nat → RS → Option (RS × Int)) (ih : Ih ws R) (s : RS) (x : RS × Int) (h : tExp ws R s = some x) : Ct ws 19 s x := by
  intro r L E P B cE w hR
  have hC0 := Cx.start hR
  clear hR
  unfold tExp at h
  split at h
  · rename_i hk
    go_enter Tryd.func19, Tryd.ntmps19
    go_wp2_with fail
    refine (hC0.peek).mono ?_
    rintro e w1 ⟨rfl, -, hC1⟩
    clear hC0
    go_wp2_with fail
    refine (hC1.call (ih 1 _ _ h)).mono ?_
    rintro e w2 ⟨rfl, -, E2, P2, B2, c2, hC2, -⟩
    clear hC1
    go_wp2_with fail
    go_ret
    exact ⟨rfl, hC2.nx⟩
  split at h
  · rename_i hk
    go_enter Tryd.func19, Tryd.ntmps19
    go_wp2_with fail
    refine (hC0.peek).mono ?_
    rintro e w1 ⟨rfl, -, hC1⟩
    clear hC0
    go_wp2_with fail
    refine (hC1.call (ih 2 _ _ h)).mono ?_
    rintro e w2 ⟨rfl, -, E2, P2, B2, c2, hC2, -⟩
    clear hC1
    go_wp2_with fail
    go_ret
    exact ⟨rfl, hC2.nx⟩
  split at h
  · rename_i hk
    go_enter Tryd.func19, Tryd.ntmps19
    go_wp2_with fail
    refine (hC0.peek).mono ?_
    rintro e w1 ⟨rfl, -, hC1⟩
    clear hC0
    go_wp2_with fail
    refine (hC1.call (ih 3 _ _ h)).mono ?_
    rintro e w2 ⟨rfl, -, E2, P2, B2, c2, hC2, -⟩
    clear hC1
    go_wp2_with fail
    go_ret
    exact ⟨rfl, hC2.nx⟩
  split at h
  · rename_i hk
    go_enter Tryd.func19, Tryd.ntmps19
    go_wp2_with fail
    refine (hC0.peek).mono ?_
    rintro e w1 ⟨rfl, -, hC1⟩
    clear hC0
    go_wp2_with fail
    refine (hC1.call (ih 4 _ _ h)).mono ?_
    rintro e w2 ⟨rfl, -, E2, P2, B2, c2, hC2, -⟩
    clear hC1
    go_wp2_with fail
    go_ret
    exact ⟨rfl, hC2.nx⟩
  split at h
  · rename_i hk
    go_enter Tryd.func19, Tryd.ntmps19
    go_wp2_with fail
    refine (hC0.peek).mono ?_
    rintro e w1 ⟨rfl, -, hC1⟩
    clear hC0
    go_wp2_with fail
    refine (hC1.call (ih 5 _ _ h)).mono ?_
    rintro e w2 ⟨rfl, -, E2, P2, B2, c2, hC2, -⟩
    clear hC1
    go_wp2_with fail
    go_ret
    exact ⟨rfl, hC2.nx⟩
  go_enter Tryd.func19, Tryd.ntmps19
  go_wp2_with fail
  refine (hC0.peek).mono ?_
  rintro e w1 ⟨rfl, -, hC1⟩
  clear hC0
  go_wp2_with fail
  refine (hC1.call (ih 6 _ _ h)).mono ?_
  rintro e w2 ⟨rfl, -, E2, P2, B2, c2, hC2, -⟩
  clear hC1
  go_wp2_with fail
  go_ret
  exact ⟨rfl, hC2.nx⟩

set_option maxHeartbeats 800000 in
set_option maxRecDepth 100000 in
theorem w_let (ws : List (Int × Int)) (R : Nat → RS → Option (RS × Int)) (ih : Ih ws R) (s : RS) (x : RS × Int) (h : tLet ws R s = some x) : Ct ws 27 s x := by
  intro r L E P B cE w hR
  have hC0 := Cx.start hR
  clear hR
  unfold tLet at h
  split at h
  · rename_i hk
    go_enter Tryd.func27, Tryd.ntmps27
    go_wp2_with fail
    refine (hC0.want 3).mono ?_
    rintro e w1 ⟨rfl, -, E1, P1, B1, c1, hC1, -⟩
    clear hC0
    go_wp2_with fail
    refine (hC1.take 4).mono ?_
    rintro e w2 ⟨rfl, -, E2, P2, B2, c2, hC2, -⟩
    clear hC1
    go_wp2_with fail
    refine (hC2.call (ih 7 _ _ h)).mono ?_
    rintro e w3 ⟨rfl, -, E3, P3, B3, c3, hC3, -⟩
    clear hC2
    go_wp2_with fail
    go_ret
    exact ⟨rfl, hC3.nx⟩
  · rename_i hk
    simp only [Bool.not_eq_true] at hk
    obtain ⟨b, hb, h⟩ := Option.bind_eq_some_iff.1 h
    obtain ⟨u, hu, h⟩ := Option.bind_eq_some_iff.1 h
    obtain ⟨y, hy, h⟩ := Option.bind_eq_some_iff.1 h
    go_enter Tryd.func27, Tryd.ntmps27
    go_wp2_with fail
    refine (hC0.want 3).mono ?_
    rintro e w1 ⟨rfl, -, E1, P1, B1, c1, hC1, -⟩
    clear hC0
    go_wp2_with fail
    refine (hC1.take 4).mono ?_
    rintro e w2 ⟨rfl, -, E2, P2, B2, c2, hC2, -⟩
    clear hC1
    go_wp2_with fail
    refine (hC2.binder hb).mono ?_
    rintro e w3 ⟨rfl, -, E3, P3, B3, c3, hC3, -⟩
    clear hC2
    go_wp2_with fail
    refine (hC3.want 26).mono ?_
    rintro e w4 ⟨rfl, -, E4, P4, B4, c4, hC4, -⟩
    clear hC3
    go_wp2_with fail
    refine (hC4.call (ih 0 _ _ hu)).mono ?_
    rintro e w5 ⟨rfl, -, E5, P5, B5, c5, hC5, -⟩
    clear hC4
    go_wp2_with fail
    refine (hC5.want 6).mono ?_
    rintro e w6 ⟨rfl, -, E6, P6, B6, c6, hC6, -⟩
    clear hC5
    go_wp2_with fail
    refine (hC6.call (ih 0 _ _ hy)).mono ?_
    rintro e w7 ⟨rfl, -, E7, P7, B7, c7, hC7, -⟩
    clear hC6
    go_wp2_with fail
    refine (hC7.add h).mono ?_
    rintro e w8 ⟨rfl, -, E8, P8, B8, c8, hC8, -⟩
    clear hC7
    go_wp2_with fail
    go_ret
    exact ⟨rfl, hC8.nx⟩

set_option maxHeartbeats 800000 in
set_option maxRecDepth 100000 in
theorem w_fn (ws : List (Int × Int)) (R : Nat → RS → Option (RS × Int)) (ih : Ih ws R) (s : RS) (x : RS × Int) (h : tFn ws R s = some x) : Ct ws 28 s x := by
  intro r L E P B cE w hR
  have hC0 := Cx.start hR
  clear hR
  unfold tFn at h
  obtain ⟨b, hb, h⟩ := Option.bind_eq_some_iff.1 h
  obtain ⟨u, hu, h⟩ := Option.bind_eq_some_iff.1 h
  go_enter Tryd.func28, Tryd.ntmps28
  go_wp2_with fail
  refine (hC0.want 7).mono ?_
  rintro e w1 ⟨rfl, -, E1, P1, B1, c1, hC1, -⟩
  clear hC0
  go_wp2_with fail
  refine (hC1.binder hb).mono ?_
  rintro e w2 ⟨rfl, -, E2, P2, B2, c2, hC2, -⟩
  clear hC1
  go_wp2_with fail
  refine (hC2.want 23).mono ?_
  rintro e w3 ⟨rfl, -, E3, P3, B3, c3, hC3, -⟩
  clear hC2
  go_wp2_with fail
  refine (hC3.call (ih 0 _ _ hu)).mono ?_
  rintro e w4 ⟨rfl, -, E4, P4, B4, c4, hC4, -⟩
  clear hC3
  go_wp2_with fail
  refine (hC4.add h).mono ?_
  rintro e w5 ⟨rfl, -, E5, P5, B5, c5, hC5, -⟩
  clear hC4
  go_wp2_with fail
  go_ret
  exact ⟨rfl, hC5.nx⟩

set_option maxHeartbeats 800000 in
set_option maxRecDepth 100000 in
theorem w_choice (ws : List (Int × Int)) (R : Nat → RS → Option (RS × Int)) (ih : Ih ws R) (s : RS) (x : RS × Int) (h : tIf ws R s = some x) : Ct ws 29 s x := by
  intro r L E P B cE w hR
  have hC0 := Cx.start hR
  clear hR
  unfold tIf at h
  obtain ⟨u, hu, h⟩ := Option.bind_eq_some_iff.1 h
  obtain ⟨y, hy, h⟩ := Option.bind_eq_some_iff.1 h
  obtain ⟨z, hz, h⟩ := Option.bind_eq_some_iff.1 h
  go_enter Tryd.func29, Tryd.ntmps29
  go_wp2_with fail
  refine (hC0.want 8).mono ?_
  rintro e w1 ⟨rfl, -, E1, P1, B1, c1, hC1, -⟩
  clear hC0
  go_wp2_with fail
  refine (hC1.call (ih 0 _ _ hu)).mono ?_
  rintro e w2 ⟨rfl, -, E2, P2, B2, c2, hC2, -⟩
  clear hC1
  go_wp2_with fail
  refine (hC2.want 9).mono ?_
  rintro e w3 ⟨rfl, -, E3, P3, B3, c3, hC3, -⟩
  clear hC2
  go_wp2_with fail
  refine (hC3.call (ih 0 _ _ hy)).mono ?_
  rintro e w4 ⟨rfl, -, E4, P4, B4, c4, hC4, -⟩
  clear hC3
  go_wp2_with fail
  refine (hC4.want 10).mono ?_
  rintro e w5 ⟨rfl, -, E5, P5, B5, c5, hC5, -⟩
  clear hC4
  go_wp2_with fail
  refine (hC5.call (ih 0 _ _ hz)).mono ?_
  rintro e w6 ⟨rfl, -, E6, P6, B6, c6, hC6, -⟩
  clear hC5
  go_wp2_with fail
  refine (hC6.add h).mono ?_
  rintro e w7 ⟨rfl, -, E7, P7, B7, c7, hC7, -⟩
  clear hC6
  go_wp2_with fail
  go_ret
  exact ⟨rfl, hC7.nx⟩

set_option maxHeartbeats 800000 in
set_option maxRecDepth 100000 in
theorem w_try (ws : List (Int × Int)) (R : Nat → RS → Option (RS × Int)) (ih : Ih ws R) (s : RS) (x : RS × Int) (h : tTry ws R s = some x) : Ct ws 31 s x := by
  intro r L E P B cE w hR
  have hC0 := Cx.start hR
  clear hR
  unfold tTry at h
  obtain ⟨u, hu, h⟩ := Option.bind_eq_some_iff.1 h
  obtain ⟨b, hb, h⟩ := Option.bind_eq_some_iff.1 h
  obtain ⟨y, hy, h⟩ := Option.bind_eq_some_iff.1 h
  go_enter Tryd.func31, Tryd.ntmps31
  go_wp2_with fail
  refine (hC0.want 14).mono ?_
  rintro e w1 ⟨rfl, -, E1, P1, B1, c1, hC1, -⟩
  clear hC0
  go_wp2_with fail
  refine (hC1.call (ih 0 _ _ hu)).mono ?_
  rintro e w2 ⟨rfl, -, E2, P2, B2, c2, hC2, -⟩
  clear hC1
  go_wp2_with fail
  refine (hC2.want 12).mono ?_
  rintro e w3 ⟨rfl, -, E3, P3, B3, c3, hC3, -⟩
  clear hC2
  go_wp2_with fail
  refine (hC3.binder hb).mono ?_
  rintro e w4 ⟨rfl, -, E4, P4, B4, c4, hC4, -⟩
  clear hC3
  go_wp2_with fail
  refine (hC4.want 23).mono ?_
  rintro e w5 ⟨rfl, -, E5, P5, B5, c5, hC5, -⟩
  clear hC4
  go_wp2_with fail
  refine (hC5.call (ih 0 _ _ hy)).mono ?_
  rintro e w6 ⟨rfl, -, E6, P6, B6, c6, hC6, -⟩
  clear hC5
  go_wp2_with fail
  refine (hC6.want 13).mono ?_
  rintro e w7 ⟨rfl, -, E7, P7, B7, c7, hC7, -⟩
  clear hC6
  go_wp2_with fail
  refine (hC7.add h).mono ?_
  rintro e w8 ⟨rfl, -, E8, P8, B8, c8, hC8, -⟩
  clear hC7
  go_wp2_with fail
  go_ret
  exact ⟨rfl, hC8.nx⟩

end Go.Proofs.YtnbhnjokpcdnnaaDoor

namespace Go.Proofs.YtnbhnjokpcdnnaaDoor
open Go.RowKit
attribute [local go_sem] fieldWord0 fieldWord1

set_option maxHeartbeats 800000 in
set_option maxRecDepth 100000 in
theorem w_cmp (ws : List (Int × Int)) (R : Nat → RS → Option (RS × Int)) (ih : Ih ws R) (s : RS) (x : RS × Int) (h : tCmp ws R s = some x) : Ct ws 32 s x := by
  intro r L E P B cE w hR
  have hC0 := Cx.start hR
  clear hR
  unfold tCmp at h
  obtain ⟨u, hu, h⟩ := Option.bind_eq_some_iff.1 h
  split at h
  · rename_i hk
    simp only [Option.some.injEq] at h
    subst h
    go_enter Tryd.func32, Tryd.ntmps32
    go_wp2_with fail
    refine (hC0.call (ih 8 _ _ hu)).mono ?_
    rintro e w1 ⟨rfl, -, E1, P1, B1, c1, hC1, -⟩
    clear hC0
    go_wp2_with fail
    refine (hC1.peek).mono ?_
    rintro e w2 ⟨rfl, -, hC2⟩
    clear hC1
    go_wp2_with fail
    refine (comparison_any _ _).mono ?_
    rintro e w' ⟨rfl, rfl⟩
    go_wp2_with fail
    go_ret
    exact ⟨rfl, hC2.nx⟩
  · rename_i hk
    obtain ⟨y, hy, h⟩ := Option.bind_eq_some_iff.1 h
    go_enter Tryd.func32, Tryd.ntmps32
    go_wp2_with fail
    refine (hC0.call (ih 8 _ _ hu)).mono ?_
    rintro e w1 ⟨rfl, -, E1, P1, B1, c1, hC1, -⟩
    clear hC0
    go_wp2_with fail
    refine (hC1.peek).mono ?_
    rintro e w2 ⟨rfl, -, hC2⟩
    clear hC1
    go_wp2_with fail
    refine (comparison_any _ _).mono ?_
    rintro e w' ⟨rfl, rfl⟩
    go_wp2_with fail
    refine (hC2.step).mono ?_
    rintro e w3 ⟨rfl, -, E3, P3, B3, c3, hC3, -⟩
    clear hC2
    go_wp2_with fail
    refine (hC3.call (ih 8 _ _ hy)).mono ?_
    rintro e w4 ⟨rfl, -, E4, P4, B4, c4, hC4, -⟩
    clear hC3
    go_wp2_with fail
    refine (hC4.add h).mono ?_
    rintro e w5 ⟨rfl, -, E5, P5, B5, c5, hC5, -⟩
    clear hC4
    go_wp2_with fail
    go_ret
    exact ⟨rfl, hC5.nx⟩

set_option maxHeartbeats 800000 in
set_option maxRecDepth 100000 in
theorem w_cons (ws : List (Int × Int)) (R : Nat → RS → Option (RS × Int)) (ih : Ih ws R) (s : RS) (x : RS × Int) (h : tCons ws R s = some x) : Ct ws 46 s x := by
  intro r L E P B cE w hR
  have hC0 := Cx.start hR
  clear hR
  unfold tCons at h
  obtain ⟨u, hu, h⟩ := Option.bind_eq_some_iff.1 h
  split at h
  · rename_i hk
    obtain ⟨y, hy, h⟩ := Option.bind_eq_some_iff.1 h
    go_enter Tryd.func46, Tryd.ntmps46
    go_wp2_with fail
    refine (hC0.call (ih 9 _ _ hu)).mono ?_
    rintro e w1 ⟨rfl, -, E1, P1, B1, c1, hC1, -⟩
    clear hC0
    go_wp2_with fail
    refine (hC1.take 24).mono ?_
    rintro e w2 ⟨rfl, -, E2, P2, B2, c2, hC2, -⟩
    clear hC1
    go_wp2_with fail
    refine (hC2.call (ih 8 _ _ hy)).mono ?_
    rintro e w3 ⟨rfl, -, E3, P3, B3, c3, hC3, -⟩
    clear hC2
    go_wp2_with fail
    refine (hC3.add h).mono ?_
    rintro e w4 ⟨rfl, -, E4, P4, B4, c4, hC4, -⟩
    clear hC3
    go_wp2_with fail
    go_ret
    exact ⟨rfl, hC4.nx⟩
  · rename_i hk
    simp only [Bool.not_eq_true] at hk
    simp only [Option.some.injEq] at h
    subst h
    go_enter Tryd.func46, Tryd.ntmps46
    go_wp2_with fail
    refine (hC0.call (ih 9 _ _ hu)).mono ?_
    rintro e w1 ⟨rfl, -, E1, P1, B1, c1, hC1, -⟩
    clear hC0
    go_wp2_with fail
    refine (hC1.take 24).mono ?_
    rintro e w2 ⟨rfl, -, E2, P2, B2, c2, hC2, -⟩
    clear hC1
    go_wp2_with fail
    go_ret
    exact ⟨rfl, hC2.nx⟩

set_option maxHeartbeats 800000 in
set_option maxRecDepth 100000 in
theorem w_app (ws : List (Int × Int)) (R : Nat → RS → Option (RS × Int)) (ih : Ih ws R) (s : RS) (x : RS × Int) (h : tApp ws R s = some x) : Ct ws 61 s x := by
  intro r L E P B cE w hR
  have hC0 := Cx.start hR
  clear hR
  unfold tApp at h
  split at h
  · rename_i hk
    go_enter Tryd.func61, Tryd.ntmps61
    go_wp2_with fail
    refine (hC0.peek).mono ?_
    rintro e w1 ⟨rfl, -, hC1⟩
    clear hC0
    go_wp2_with fail
    refine (hC1.call (ih 12 _ _ h)).mono ?_
    rintro e w2 ⟨rfl, -, E2, P2, B2, c2, hC2, -⟩
    clear hC1
    go_wp2_with fail
    go_ret
    exact ⟨rfl, hC2.nx⟩
  split at h
  · rename_i hk hp
    go_enter Tryd.func61, Tryd.ntmps61
    go_wp2_with fail
    refine (hC0.peek).mono ?_
    rintro e w1 ⟨rfl, -, hC1⟩
    clear hC0
    go_wp2_with fail
    refine (prefix_any _ _).mono ?_
    rintro e w' ⟨rfl, rfl⟩
    go_wp2_with fail
    refine (hC1.call (ih 13 _ _ h)).mono ?_
    rintro e w2 ⟨rfl, -, E2, P2, B2, c2, hC2, -⟩
    clear hC1
    go_wp2_with fail
    go_ret
    exact ⟨rfl, hC2.nx⟩
  · rename_i hk hp
    obtain ⟨u, hu, h⟩ := Option.bind_eq_some_iff.1 h
    go_enter Tryd.func61, Tryd.ntmps61
    go_wp2_with fail
    refine (hC0.peek).mono ?_
    rintro e w1 ⟨rfl, -, hC1⟩
    clear hC0
    go_wp2_with fail
    refine (prefix_any _ _).mono ?_
    rintro e w' ⟨rfl, rfl⟩
    go_wp2_with fail
    refine (hC1.step).mono ?_
    rintro e w2 ⟨rfl, -, E2, P2, B2, c2, hC2, -⟩
    clear hC1
    go_wp2_with fail
    refine (hC2.call (ih 14 _ _ hu)).mono ?_
    rintro e w3 ⟨rfl, -, E3, P3, B3, c3, hC3, -⟩
    clear hC2
    go_wp2_with fail
    refine (hC3.add h).mono ?_
    rintro e w4 ⟨rfl, -, E4, P4, B4, c4, hC4, -⟩
    clear hC3
    go_wp2_with fail
    go_ret
    exact ⟨rfl, hC4.nx⟩

set_option maxHeartbeats 800000 in
set_option maxRecDepth 100000 in
theorem w_throw (ws : List (Int × Int)) (R : Nat → RS → Option (RS × Int)) (ih : Ih ws R) (s : RS) (x : RS × Int) (h : tThrow ws R s = some x) : Ct ws 63 s x := by
  intro r L E P B cE w hR
  have hC0 := Cx.start hR
  clear hR
  unfold tThrow at h
  obtain ⟨u, hu, h⟩ := Option.bind_eq_some_iff.1 h
  obtain ⟨y, hy, h⟩ := Option.bind_eq_some_iff.1 h
  go_enter Tryd.func63, Tryd.ntmps63
  go_wp2_with fail
  refine (hC0.want 17).mono ?_
  rintro e w1 ⟨rfl, -, E1, P1, B1, c1, hC1, -⟩
  clear hC0
  go_wp2_with fail
  refine (hC1.call (ih 14 _ _ hu)).mono ?_
  rintro e w2 ⟨rfl, -, E2, P2, B2, c2, hC2, -⟩
  clear hC1
  go_wp2_with fail
  refine (hC2.call (ih 14 _ _ hy)).mono ?_
  rintro e w3 ⟨rfl, -, E3, P3, B3, c3, hC3, -⟩
  clear hC2
  go_wp2_with fail
  refine (hC3.add h).mono ?_
  rintro e w4 ⟨rfl, -, E4, P4, B4, c4, hC4, -⟩
  clear hC3
  go_wp2_with fail
  go_ret
  exact ⟨rfl, hC4.nx⟩

set_option maxHeartbeats 800000 in
set_option maxRecDepth 100000 in
theorem w_brackets (ws : List (Int × Int)) (R : Nat → RS → Option (RS × Int)) (ih : Ih ws R) (s : RS) (x : RS × Int) (h : tBrackets ws R s = some x) : Ct ws 67 s x := by
  intro r L E P B cE w hR
  have hC0 := Cx.start hR
  clear hR
  unfold tBrackets at h
  obtain ⟨u, hu, h⟩ := Option.bind_eq_some_iff.1 h
  split at h
  · rename_i hk
    obtain ⟨y, hy, h⟩ := Option.bind_eq_some_iff.1 h
    obtain ⟨z, hz, h⟩ := Option.bind_eq_some_iff.1 h
    simp only [Option.some.injEq] at h
    subst h
    go_enter Tryd.func67, Tryd.ntmps67
    go_wp2_with fail
    refine (hC0.want 32).mono ?_
    rintro e w1 ⟨rfl, -, E1, P1, B1, c1, hC1, -⟩
    clear hC0
    go_wp2_with fail
    refine (hC1.call (ih 0 _ _ hu)).mono ?_
    rintro e w2 ⟨rfl, -, E2, P2, B2, c2, hC2, -⟩
    clear hC1
    go_wp2_with fail
    refine (hC2.take 34).mono ?_
    rintro e w3 ⟨rfl, -, E3, P3, B3, c3, hC3, -⟩
    clear hC2
    go_wp2_with fail
    refine (hC3.call (ih 0 _ _ hy)).mono ?_
    rintro e w4 ⟨rfl, -, E4, P4, B4, c4, hC4, -⟩
    clear hC3
    go_wp2_with fail
    refine (hC4.add hz).mono ?_
    rintro e w5 ⟨rfl, -, E5, P5, B5, c5, hC5, -⟩
    clear hC4
    go_wp2_with fail
    refine (hC5.want 33).mono ?_
    rintro e w6 ⟨rfl, -, E6, P6, B6, c6, hC6, -⟩
    clear hC5
    go_wp2_with fail
    go_ret
    exact ⟨rfl, hC6.nx⟩
  · rename_i hk
    simp only [Bool.not_eq_true] at hk
    simp only [Option.some.injEq] at h
    subst h
    go_enter Tryd.func67, Tryd.ntmps67
    go_wp2_with fail
    refine (hC0.want 32).mono ?_
    rintro e w1 ⟨rfl, -, E1, P1, B1, c1, hC1, -⟩
    clear hC0
    go_wp2_with fail
    refine (hC1.call (ih 0 _ _ hu)).mono ?_
    rintro e w2 ⟨rfl, -, E2, P2, B2, c2, hC2, -⟩
    clear hC1
    go_wp2_with fail
    refine (hC2.take 34).mono ?_
    rintro e w3 ⟨rfl, -, E3, P3, B3, c3, hC3, -⟩
    clear hC2
    go_wp2_with fail
    refine (hC3.want 33).mono ?_
    rintro e w4 ⟨rfl, -, E4, P4, B4, c4, hC4, -⟩
    clear hC3
    go_wp2_with fail
    go_ret
    exact ⟨rfl, hC4.nx⟩

set_option maxHeartbeats 800000 in
set_option maxRecDepth 100000 in
theorem w_patBrackets (ws : List (Int × Int)) (R : Nat → RS → Option (RS × Int)) (ih : Ih ws R) (s : RS) (x : RS × Int) (h : tPatBrackets ws R s = some x) : Ct ws 59 s x := by
  intro r L E P B cE w hR
  have hC0 := Cx.start hR
  clear hR
  unfold tPatBrackets at h
  obtain ⟨u, hu, h⟩ := Option.bind_eq_some_iff.1 h
  split at h
  · rename_i hk
    obtain ⟨y, hy, h⟩ := Option.bind_eq_some_iff.1 h
    obtain ⟨z, hz, h⟩ := Option.bind_eq_some_iff.1 h
    simp only [Option.some.injEq] at h
    subst h
    go_enter Tryd.func59, Tryd.ntmps59
    go_wp2_with fail
    refine (hC0.want 32).mono ?_
    rintro e w1 ⟨rfl, -, E1, P1, B1, c1, hC1, -⟩
    clear hC0
    go_wp2_with fail
    refine (hC1.call (ih 16 _ _ hu)).mono ?_
    rintro e w2 ⟨rfl, -, E2, P2, B2, c2, hC2, -⟩
    clear hC1
    go_wp2_with fail
    refine (hC2.take 34).mono ?_
    rintro e w3 ⟨rfl, -, E3, P3, B3, c3, hC3, -⟩
    clear hC2
    go_wp2_with fail
    refine (hC3.call (ih 16 _ _ hy)).mono ?_
    rintro e w4 ⟨rfl, -, E4, P4, B4, c4, hC4, -⟩
    clear hC3
    go_wp2_with fail
    refine (hC4.addP hz).mono ?_
    rintro e w5 ⟨rfl, -, E5, P5, B5, c5, hC5, -⟩
    clear hC4
    go_wp2_with fail
    refine (hC5.want 33).mono ?_
    rintro e w6 ⟨rfl, -, E6, P6, B6, c6, hC6, -⟩
    clear hC5
    go_wp2_with fail
    go_ret
    exact ⟨rfl, hC6.nx⟩
  · rename_i hk
    simp only [Bool.not_eq_true] at hk
    simp only [Option.some.injEq] at h
    subst h
    go_enter Tryd.func59, Tryd.ntmps59
    go_wp2_with fail
    refine (hC0.want 32).mono ?_
    rintro e w1 ⟨rfl, -, E1, P1, B1, c1, hC1, -⟩
    clear hC0
    go_wp2_with fail
    refine (hC1.call (ih 16 _ _ hu)).mono ?_
    rintro e w2 ⟨rfl, -, E2, P2, B2, c2, hC2, -⟩
    clear hC1
    go_wp2_with fail
    refine (hC2.take 34).mono ?_
    rintro e w3 ⟨rfl, -, E3, P3, B3, c3, hC3, -⟩
    clear hC2
    go_wp2_with fail
    refine (hC3.want 33).mono ?_
    rintro e w4 ⟨rfl, -, E4, P4, B4, c4, hC4, -⟩
    clear hC3
    go_wp2_with fail
    go_ret
    exact ⟨rfl, hC4.nx⟩

set_option maxHeartbeats 800000 in
set_option maxRecDepth 100000 in
theorem w_pat (ws : List (Int × Int)) (R : Nat → RS → Option (RS × Int)) (ih : Ih ws R) (s : RS) (x : RS × Int) (h : tPat ws R s = some x) : Ct ws 53 s x := by
  intro r L E P B cE w hR
  have hC0 := Cx.start hR
  clear hR
  unfold tPat at h
  obtain ⟨u, hu, h⟩ := Option.bind_eq_some_iff.1 h
  split at h
  · rename_i hk
    obtain ⟨y, hy, h⟩ := Option.bind_eq_some_iff.1 h
    go_enter Tryd.func53, Tryd.ntmps53
    go_wp2_with fail
    refine (hC0.call (ih 17 _ _ hu)).mono ?_
    rintro e w1 ⟨rfl, -, E1, P1, B1, c1, hC1, -⟩
    clear hC0
    go_wp2_with fail
    refine (hC1.take 24).mono ?_
    rintro e w2 ⟨rfl, -, E2, P2, B2, c2, hC2, -⟩
    clear hC1
    go_wp2_with fail
    refine (hC2.call (ih 16 _ _ hy)).mono ?_
    rintro e w3 ⟨rfl, -, E3, P3, B3, c3, hC3, -⟩
    clear hC2
    go_wp2_with fail
    refine (hC3.addP h).mono ?_
    rintro e w4 ⟨rfl, -, E4, P4, B4, c4, hC4, -⟩
    clear hC3
    go_wp2_with fail
    go_ret
    exact ⟨rfl, hC4.nx⟩
  · rename_i hk
    simp only [Bool.not_eq_true] at hk
    simp only [Option.some.injEq] at h
    subst h
    go_enter Tryd.func53, Tryd.ntmps53
    go_wp2_with fail
    refine (hC0.call (ih 17 _ _ hu)).mono ?_
    rintro e w1 ⟨rfl, -, E1, P1, B1, c1, hC1, -⟩
    clear hC0
    go_wp2_with fail
    refine (hC1.take 24).mono ?_
    rintro e w2 ⟨rfl, -, E2, P2, B2, c2, hC2, -⟩
    clear hC1
    go_wp2_with fail
    go_ret
    exact ⟨rfl, hC2.nx⟩

end Go.Proofs.YtnbhnjokpcdnnaaDoor

namespace Go.Proofs.YtnbhnjokpcdnnaaDoor
open Go.RowKit
attribute [local go_sem] fieldWord0 fieldWord1

theorem keepCell {O : Nat → Prop} {w w' : World} (hF : Fr O w w') {b i : Nat} {v : Value} (hc : w.cell? ⟨b, i, none⟩ = some v) (hn : ¬ O b) : w'.cell? ⟨b, i, none⟩ = some v :=
  (World.cell?_of_block (hF.block b (World.block_lt_of_cell? w _ hc) hn)).trans hc

theorem Cx.fresh {r : Nat} {L : Value} {ws : List (Int × Int)} {w0 : World} {E0 P0 B0 : Value} {c0 : List Value} {w : World} {E P B : Value} {cE : List Value} {s : RS} (h : Cx r L ws w0 E0 P0 B0 c0 w E P B cE s) {b : Nat} (hb : w.heap.size ≤ b) : ¬ own r E P B b :=
  fun h' => by have := (own_ge h.1 b h').2; omega

set_option maxHeartbeats 800000 in
set_option maxRecDepth 100000 in
theorem w_atom (ws : List (Int × Int)) (R : Nat → RS → Option (RS × Int)) (ih : Ih ws R) (s : RS) (x : RS × Int) (h : tAtom ws R s = some x) : Ct ws 65 s x := by
  intro r L E P B cE w hR
  have hC0 := Cx.start hR
  clear hR
  unfold tAtom at h
  split at h
  · rename_i hk
    go_enter Tryd.func65, Tryd.ntmps65
    go_wp2_with fail
    refine (hC0.peek).mono ?_
    rintro e w1 ⟨rfl, -, hC1⟩
    clear hC0
    go_wp2_with fail
    refine ((hC1.fr (by repeat (first | with_reducible exact Fr.refl _ _ | (with_reducible refine Fr.drew ?_) | (with_reducible refine Fr.drewN ?_ _) | (with_reducible refine Fr.alloc ?_ _) | ((with_reducible refine Fr.setCell ?_ ?_ _); rotate_left; first | exact .inl rfl | exact .inr (Nat.le_refl _) | exact .inl (Nat.le_refl _) | (focus (left; simp; done)) | (focus (left; simp; omega)) | (focus (left; omega)) | (focus (right; simp; done)) | (focus (right; simp; omega)) | (focus (right; omega))) | exact Fr.refl _ _))).call (ih 15 _ _ h)).mono ?_
    rintro e w2 ⟨rfl, -, E2, P2, B2, c2, hC2, -⟩
    clear hC1
    go_wp2_with fail
    go_ret
    exact ⟨rfl, hC2.nx⟩
  · rename_i hk
    by_cases ha : atomK (rPeek ws s).1 = 0
    · have H : Hid (Go.Proofs.YtnbhnjokpcdnnaaDoor.add ⟨0, (rPeek ws s).2, 0, 0, 0, 0, [], []⟩ (rStep ws (rFail ws s)) = some x) := by rw [if_pos ha, ha] at h; exact h
      clear h
      go_enter Tryd.func65, Tryd.ntmps65
      go_wp2_with fail
      refine (hC0.peek).mono ?_
      rintro e w1 ⟨rfl, -, hC1⟩
      clear hC0
      go_wp2_with fail
      refine (oneWordAtom_any _ _).mono ?_
      rintro e w' ⟨rfl, rfl⟩
      have hc0 : (w1.alloc (.cells #[.int .i64 (rPeek ws s).1, .int .i64 (rPeek ws s).2] 73)).cell? ⟨w1.heap.size, 1, none⟩ = some (.int .i64 (rPeek ws s).2) := by simp
      go_wp2_with fail
      refine ((hC1.fr (by repeat (first | with_reducible exact Fr.refl _ _ | (with_reducible refine Fr.drew ?_) | (with_reducible refine Fr.drewN ?_ _) | (with_reducible refine Fr.alloc ?_ _) | ((with_reducible refine Fr.setCell ?_ ?_ _); rotate_left; first | exact .inl rfl | exact .inr (Nat.le_refl _) | exact .inl (Nat.le_refl _) | (focus (left; simp; done)) | (focus (left; simp; omega)) | (focus (left; omega)) | (focus (right; simp; done)) | (focus (right; simp; omega)) | (focus (right; omega))) | exact Fr.refl _ _))).fail).mono ?_
      rintro e w2 ⟨rfl, hF2, E2, P2, B2, c2, hC2, hO2⟩
      have hc2 := keepCell hF2 hc0 (hC1.fresh (Nat.le_refl _))
      have hn2 : Hid (¬ own r E2 P2 B2 w1.heap.size) := fun h' => by
        rcases hO2.1 _ h' with h1 | h1
        · exact hC1.fresh (Nat.le_refl _) h1
        · simp at h1; omega
      clear hC1 hF2 hc0 hO2
      go_wp2_with fail
      refine (hC2.step).mono ?_
      rintro e w3 ⟨rfl, hF3, E3, P3, B3, c3, hC3, -⟩
      have hc3 := keepCell hF3 hc2 hn2.out
      clear hC2 hF3 hc2 hn2
      go_wp2_with fail
      refine (hC3.add H.out).mono ?_
      rintro e w4 ⟨rfl, -, E4, P4, B4, c4, hC4, -⟩
      clear hC3
      go_wp2_with fail
      go_ret
      exact ⟨rfl, hC4.nx⟩
    · have H : Hid (Go.Proofs.YtnbhnjokpcdnnaaDoor.add ⟨atomK (rPeek ws s).1, (rPeek ws s).2, 0, 0, 0, 0, [], []⟩ (rStep ws s) = some x) := by rw [if_neg ha] at h; exact h
      clear h
      go_enter Tryd.func65, Tryd.ntmps65
      go_wp2_with fail
      refine (hC0.peek).mono ?_
      rintro e w1 ⟨rfl, -, hC1⟩
      clear hC0
      go_wp2_with fail
      refine (oneWordAtom_any _ _).mono ?_
      rintro e w' ⟨rfl, rfl⟩
      have hc0 : (w1.alloc (.cells #[.int .i64 (rPeek ws s).1, .int .i64 (rPeek ws s).2] 73)).cell? ⟨w1.heap.size, 1, none⟩ = some (.int .i64 (rPeek ws s).2) := by simp
      go_wp2_with fail
      refine ((hC1.fr (by repeat (first | with_reducible exact Fr.refl _ _ | (with_reducible refine Fr.drew ?_) | (with_reducible refine Fr.drewN ?_ _) | (with_reducible refine Fr.alloc ?_ _) | ((with_reducible refine Fr.setCell ?_ ?_ _); rotate_left; first | exact .inl rfl | exact .inr (Nat.le_refl _) | exact .inl (Nat.le_refl _) | (focus (left; simp; done)) | (focus (left; simp; omega)) | (focus (left; omega)) | (focus (right; simp; done)) | (focus (right; simp; omega)) | (focus (right; omega))) | exact Fr.refl _ _))).step).mono ?_
      rintro e w3 ⟨rfl, hF3, E3, P3, B3, c3, hC3, -⟩
      have hc3 := keepCell hF3 hc0 (hC1.fresh (Nat.le_refl _))
      clear hC1 hF3 hc0
      go_wp2_with fail
      refine (hC3.add H.out).mono ?_
      rintro e w4 ⟨rfl, -, E4, P4, B4, c4, hC4, -⟩
      clear hC3
      go_wp2_with fail
      go_ret
      exact ⟨rfl, hC4.nx⟩

set_option maxHeartbeats 1600000 in
set_option maxRecDepth 100000 in
theorem w_simple (ws : List (Int × Int)) (R : Nat → RS → Option (RS × Int)) (ih : Ih ws R) (s : RS) (x : RS × Int) (h : tSimple ws R s = some x) : Ct ws 55 s x := by
  intro r L E P B cE w hR
  have hC0 := Cx.start hR
  clear hR
  unfold tSimple at h
  split at h
  · rename_i hk
    go_enter Tryd.func55, Tryd.ntmps55
    go_wp2_with fail
    refine (hC0.peek).mono ?_
    rintro e w1 ⟨rfl, -, hC1⟩
    clear hC0
    go_wp2_with fail
    refine ((hC1.fr (by repeat (first | with_reducible exact Fr.refl _ _ | (with_reducible refine Fr.drew ?_) | (with_reducible refine Fr.drewN ?_ _) | (with_reducible refine Fr.alloc ?_ _) | ((with_reducible refine Fr.setCell ?_ ?_ _); rotate_left; first | exact .inl rfl | exact .inr (Nat.le_refl _) | exact .inl (Nat.le_refl _) | (focus (left; simp; done)) | (focus (left; simp; omega)) | (focus (left; omega)) | (focus (right; simp; done)) | (focus (right; simp; omega)) | (focus (right; omega))) | exact Fr.refl _ _))).call (ih 18 _ _ h)).mono ?_
    rintro e w2 ⟨rfl, -, E2, P2, B2, c2, hC2, -⟩
    clear hC1
    go_wp2_with fail
    go_ret
    exact ⟨rfl, hC2.nx⟩
  rename_i hk0
  split at h
  · rename_i hk
    obtain ⟨b, hb, h⟩ := Option.bind_eq_some_iff.1 h
    go_enter Tryd.func55, Tryd.ntmps55
    go_wp2_with fail
    refine (hC0.peek).mono ?_
    rintro e w1 ⟨rfl, -, hC1⟩
    clear hC0
    go_wp2_with fail
    refine ((hC1.fr (by repeat (first | with_reducible exact Fr.refl _ _ | (with_reducible refine Fr.drew ?_) | (with_reducible refine Fr.drewN ?_ _) | (with_reducible refine Fr.alloc ?_ _) | ((with_reducible refine Fr.setCell ?_ ?_ _); rotate_left; first | exact .inl rfl | exact .inr (Nat.le_refl _) | exact .inl (Nat.le_refl _) | (focus (left; simp; done)) | (focus (left; simp; omega)) | (focus (left; omega)) | (focus (right; simp; done)) | (focus (right; simp; omega)) | (focus (right; omega))) | exact Fr.refl _ _))).binder hb).mono ?_
    rintro e w2 ⟨rfl, -, E2, P2, B2, c2, hC2, -⟩
    clear hC1
    go_wp2_with fail
    refine (hC2.addP h).mono ?_
    rintro e w3 ⟨rfl, -, E3, P3, B3, c3, hC3, -⟩
    clear hC2
    go_wp2_with fail
    go_ret
    exact ⟨rfl, hC3.nx⟩
  rename_i hk1
  split at h
  · rename_i hk
    go_enter Tryd.func55, Tryd.ntmps55
    go_wp2_with fail
    refine (hC0.peek).mono ?_
    rintro e w1 ⟨rfl, -, hC1⟩
    clear hC0
    go_wp2_with fail
    refine ((hC1.fr (by repeat (first | with_reducible exact Fr.refl _ _ | (with_reducible refine Fr.drew ?_) | (with_reducible refine Fr.drewN ?_ _) | (with_reducible refine Fr.alloc ?_ _) | ((with_reducible refine Fr.setCell ?_ ?_ _); rotate_left; first | exact .inl rfl | exact .inr (Nat.le_refl _) | exact .inl (Nat.le_refl _) | (focus (left; simp; done)) | (focus (left; simp; omega)) | (focus (left; omega)) | (focus (right; simp; done)) | (focus (right; simp; omega)) | (focus (right; omega))) | exact Fr.refl _ _))).step).mono ?_
    rintro e w2 ⟨rfl, -, E2, P2, B2, c2, hC2, -⟩
    clear hC1
    go_wp2_with fail
    refine (hC2.addP h).mono ?_
    rintro e w3 ⟨rfl, -, E3, P3, B3, c3, hC3, -⟩
    clear hC2
    go_wp2_with fail
    go_ret
    exact ⟨rfl, hC3.nx⟩
  · rename_i hk2
    by_cases ha : constK (rPeek ws s).1 = 0
    · have H : Hid (Go.Proofs.YtnbhnjokpcdnnaaDoor.addP ⟨0, (rPeek ws s).2, 0, 0, 0⟩ (rStep ws (rFail ws s)) = some x) := by rw [if_pos ha, ha] at h; exact h
      clear h
      go_enter Tryd.func55, Tryd.ntmps55
      go_wp2_with fail
      refine (hC0.peek).mono ?_
      rintro e w1 ⟨rfl, -, hC1⟩
      clear hC0
      go_wp2_with fail
      refine (constant_any _ _).mono ?_
      rintro e w' ⟨rfl, rfl⟩
      have hc0 : (w1.alloc (.cells #[.int .i64 (rPeek ws s).1, .int .i64 (rPeek ws s).2] 73)).cell? ⟨w1.heap.size, 1, none⟩ = some (.int .i64 (rPeek ws s).2) := by simp
      go_wp2_with fail
      refine ((hC1.fr (by repeat (first | with_reducible exact Fr.refl _ _ | (with_reducible refine Fr.drew ?_) | (with_reducible refine Fr.drewN ?_ _) | (with_reducible refine Fr.alloc ?_ _) | ((with_reducible refine Fr.setCell ?_ ?_ _); rotate_left; first | exact .inl rfl | exact .inr (Nat.le_refl _) | exact .inl (Nat.le_refl _) | (focus (left; simp; done)) | (focus (left; simp; omega)) | (focus (left; omega)) | (focus (right; simp; done)) | (focus (right; simp; omega)) | (focus (right; omega))) | exact Fr.refl _ _))).fail).mono ?_
      rintro e w2 ⟨rfl, hF2, E2, P2, B2, c2, hC2, hO2⟩
      have hc2 := keepCell hF2 hc0 (hC1.fresh (Nat.le_refl _))
      have hn2 : Hid (¬ own r E2 P2 B2 w1.heap.size) := fun h' => by
        rcases hO2.1 _ h' with h1 | h1
        · exact hC1.fresh (Nat.le_refl _) h1
        · simp at h1; omega
      clear hC1 hF2 hc0 hO2
      go_wp2_with fail
      refine (hC2.step).mono ?_
      rintro e w3 ⟨rfl, hF3, E3, P3, B3, c3, hC3, -⟩
      have hc3 := keepCell hF3 hc2 hn2.out
      clear hC2 hF3 hc2 hn2
      go_wp2_with fail
      refine (hC3.addP H.out).mono ?_
      rintro e w4 ⟨rfl, -, E4, P4, B4, c4, hC4, -⟩
      clear hC3
      go_wp2_with fail
      go_ret
      exact ⟨rfl, hC4.nx⟩
    · have H : Hid (Go.Proofs.YtnbhnjokpcdnnaaDoor.addP ⟨constK (rPeek ws s).1, (rPeek ws s).2, 0, 0, 0⟩ (rStep ws s) = some x) := by rw [if_neg ha] at h; exact h
      clear h
      go_enter Tryd.func55, Tryd.ntmps55
      go_wp2_with fail
      refine (hC0.peek).mono ?_
      rintro e w1 ⟨rfl, -, hC1⟩
      clear hC0
      go_wp2_with fail
      refine (constant_any _ _).mono ?_
      rintro e w' ⟨rfl, rfl⟩
      have hc0 : (w1.alloc (.cells #[.int .i64 (rPeek ws s).1, .int .i64 (rPeek ws s).2] 73)).cell? ⟨w1.heap.size, 1, none⟩ = some (.int .i64 (rPeek ws s).2) := by simp
      go_wp2_with fail
      refine ((hC1.fr (by repeat (first | with_reducible exact Fr.refl _ _ | (with_reducible refine Fr.drew ?_) | (with_reducible refine Fr.drewN ?_ _) | (with_reducible refine Fr.alloc ?_ _) | ((with_reducible refine Fr.setCell ?_ ?_ _); rotate_left; first | exact .inl rfl | exact .inr (Nat.le_refl _) | exact .inl (Nat.le_refl _) | (focus (left; simp; done)) | (focus (left; simp; omega)) | (focus (left; omega)) | (focus (right; simp; done)) | (focus (right; simp; omega)) | (focus (right; omega))) | exact Fr.refl _ _))).step).mono ?_
      rintro e w3 ⟨rfl, hF3, E3, P3, B3, c3, hC3, -⟩
      have hc3 := keepCell hF3 hc0 (hC1.fresh (Nat.le_refl _))
      clear hC1 hF3 hc0
      go_wp2_with fail
      refine (hC3.addP H.out).mono ?_
      rintro e w4 ⟨rfl, -, E4, P4, B4, c4, hC4, -⟩
      clear hC3
      go_wp2_with fail
      go_ret
      exact ⟨rfl, hC4.nx⟩

end Go.Proofs.YtnbhnjokpcdnnaaDoor
