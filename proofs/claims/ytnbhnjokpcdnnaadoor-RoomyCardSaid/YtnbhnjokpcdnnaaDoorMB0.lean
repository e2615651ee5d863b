import Derived.Test.YtnbhnjokpcdnnaaDoorMA6
import Derived.Test.YtnbhnjokpcdnnaaDoorMA7
import Derived.Test.YtnbhnjokpcdnnaaDoorMA9
import Derived.Deep.CutRange
set_option linter.unusedVariables false
set_option linter.unusedSimpArgs false
/- resumekeep where Start answers nothing yet: pick, sameInts, same, desk, ended, more. -/
namespace Go.Proofs.YtnbhnjokpcdnnaaDoor
open Go.RowKit

theorem cell_fr {O : Nat → Prop} {w w' : World} (h : Fr O w w') {a : Addr} (hl : a.block < w.heap.size) (ho : ¬ O a.block) : w'.cell? a = w.cell? a := by
  unfold World.cell?
  rw [h.block _ hl ho]

theorem add_block (a : Addr) (i : Nat) : (a.add i).block = a.block := by
  unfold Addr.add
  split <;> rfl

theorem cell_lt {w : World} {a : Addr} {v : Value} (h : w.cell? a = some v) : a.block < w.heap.size := by
  unfold World.cell? at h
  cases hb : w.heap[a.block]? with
  | none => simp [hb] at h
  | some o => exact blk_lt hb

/-- Every text has its error, or none. -/
theorem cErr_ends (t : List UInt8) : ∃ N k, (∀ n, N ≤ n → cErr n t = some k) := by
  by_cases hlong : 240 < t.length
  · exact ⟨0, 1, fun n _ => plain_long hlong n⟩
  · have hshort : t.length ≤ 240 := by omega
    obtain ⟨⟨ws, ok⟩, hw⟩ := wordsR_some (t.length + 1) t [] (Nat.lt_succ_self _)
    have hwl := words_len _ _ _ _ _ hw
    simp at hwl
    cases ok with
    | false =>
      obtain ⟨n, hk⟩ := plain_lex hshort hw
      exact ⟨n, 2, hk⟩
    | true =>
      by_cases hT : ∃ T, Dv ws 0 0 ws.length T
      · obtain ⟨T, hT⟩ := hT
        obtain ⟨_, _, _, _, wr, -, -, -, n, hk⟩ := plain_tree hshort hw (by omega) hT
        exact ⟨n, _, hk⟩
      · obtain ⟨n, hk⟩ := plain_syntax hshort hw (by omega) (fun T h => hT ⟨T, h⟩)
        exact ⟨n, 3, hk⟩

theorem results_cell0 {fn : Func} {p : Tmp} {ty : TypeId} (h : fn.results = #[.cell p ty]) (tmps : Array Value) (P : Program) (w : World) :
    (results fn tmps).run P w = ((asAddr (tmps.getD p undef)).run P w).andThen fun a w₁ => (loadVar ty a).run P w₁ := by
  simp only [results, h]
  simp [Sem.run_bind, Result.andThen]

section
variable {w : World}

set_option maxHeartbeats 800000 in
set_option maxRecDepth 100000 in
theorem pick_r {c : Int} (h0 : -9223372036854775808 ≤ c) (h1 : c ≤ 9223372036854775807) (n : Nat) (hn : 0 < n) (hn2 : n ≤ 4294967296) :
    Calls Tryd.prog 7 #[.int .i64 c, .int .i64 n] w fun e w' => w' = w ∧ ∃ k : Nat, k < n ∧ e = .returned (.int .i64 k) := by
  go_enter Tryd.func7, Tryd.ntmps7
  have q0 : ¬ ((n : Int) = 0) := by omega
  by_cases hc : c < 0
  · have e1 : IntKind.i64.wrap (c + 1) = c + 1 := by rw [IntKind.wrap_i64]; omega
    have e2 : IntKind.i64.wrap (-(c + 1)) = -(c + 1) := by rw [IntKind.wrap_i64]; omega
    obtain ⟨d, hd⟩ : ∃ d : Nat, -(c + 1) = (d : Int) := ⟨(-(c + 1)).toNat, by omega⟩
    go_wp2_with fail
    go_ret
    exact ⟨rfl, d % n, Nat.mod_lt _ hn, rfl⟩
  · obtain ⟨d, rfl⟩ : ∃ d : Nat, c = (d : Int) := ⟨c.toNat, by omega⟩
    go_wp2_with fail
    go_ret
    exact ⟨rfl, d % n, Nat.mod_lt _ hn, rfl⟩

set_option maxHeartbeats 800000 in
set_option maxRecDepth 100000 in
theorem sameNil_r : Calls Tryd.prog 17 #[.slice none 0 0, .slice none 0 0] w fun e w' => w' = w ∧ e = .returned (.bool true) := by
  go_enter Tryd.func17, Tryd.ntmps17
  go_wp2_with fail
  go_loopg [5] 0 (fun k iv wr => k = 0 ∧ iv = .int .i64 0 ∧ wr = w)
  case atStart => exact ⟨rfl, rfl, rfl⟩
  case round =>
    obtain ⟨-, rfl, rfl⟩ := hrel
    go_wp2_with fail
    go_ret
    exact ⟨rfl, rfl⟩

/-- How a run stands of which nothing is known. -/
def stNo : Value := .agg #[.int .i64 0, .string ⟨#[]⟩, .slice none 0 0, .int .i64 0]

set_option maxHeartbeats 800000 in
set_option maxRecDepth 100000 in
theorem same_r : Calls Tryd.prog 9 #[stNo, stNo] w fun e w' => Fr (fun _ => False) w w' ∧ e = .returned (.bool true) := by
  unfold stNo
  go_enter Tryd.func9, Tryd.ntmps9
  go_wp2_with fail
  refine sameNil_r.mono ?_
  rintro e w1 ⟨rfl, rfl⟩
  go_wp2_with fail
  go_ret
  exact ⟨(by repeat (first | with_reducible exact Fr.refl _ _ | (with_reducible refine Fr.drew ?_) | (with_reducible refine Fr.drewN ?_ _) | (with_reducible refine Fr.alloc ?_ _) | ((with_reducible refine Fr.setCell ?_ ?_ _); rotate_left; first | exact .inl rfl | exact .inr (Nat.le_refl _) | exact .inl (Nat.le_refl _) | (focus (left; simp; done)) | (focus (left; simp; omega)) | (focus (left; omega)) | (focus (right; simp; done)) | (focus (right; simp; omega)) | (focus (right; omega))) | exact Fr.refl _ _)), rfl⟩

set_option maxHeartbeats 800000 in
set_option maxRecDepth 100000 in
theorem start_r {p : Value} {iv : Value} {n : Int} : Calls Tryd.prog 14 #[p, iv, .int .i64 n] w fun e w' => w' = w ∧ e = .returned (.tuple #[.pointer none, .int .i64 0]) := by
  go_enter Tryd.func14, Tryd.ntmps14
  go_wp2_with fail
  go_ret2
  exact ⟨rfl, rfl⟩

set_option maxHeartbeats 800000 in
set_option maxRecDepth 100000 in
theorem go_r {n : Int} : Calls Tryd.prog 15 #[.pointer none, .int .i64 n] w fun e w' => w' = w ∧ e = .returned (.int .i64 0) := by
  go_enter Tryd.func15, Tryd.ntmps15
  go_wp2_with fail
  go_ret
  exact ⟨rfl, rfl⟩

set_option maxHeartbeats 800000 in
set_option maxRecDepth 100000 in
theorem state_r : Calls Tryd.prog 16 #[.pointer none] w fun e w' => Fr (fun _ => False) w w' ∧ e = .returned stNo := by
  unfold stNo
  go_enter Tryd.func16, Tryd.ntmps16
  go_wp2_with fail
  (try simp only [Exit.inBlock, Exit.then])
  refine bodyPost_ret (v := .agg #[.int .i64 0, .string ⟨#[]⟩, .slice none 0 0, .int .i64 0]) ?_ rfl ⟨(by repeat (first | with_reducible exact Fr.refl _ _ | (with_reducible refine Fr.drew ?_) | (with_reducible refine Fr.drewN ?_ _) | (with_reducible refine Fr.alloc ?_ _) | ((with_reducible refine Fr.setCell ?_ ?_ _); rotate_left; first | exact .inl rfl | exact .inr (Nat.le_refl _) | exact .inl (Nat.le_refl _) | (focus (left; simp; done)) | (focus (left; simp; omega)) | (focus (left; omega)) | (focus (right; simp; done)) | (focus (right; simp; omega)) | (focus (right; omega))) | exact Fr.refl _ _)), rfl⟩
  rw [results_cell0 rfl]
  go_simp

/-- The desk, as it lies. -/
def DeskAt (w : World) (db : Nat) (p : Value) (t : List UInt8) (q : Nat) : Prop :=
  ∃ sa sn sc, w.heap[db]? = some (.cells #[p, .string (bs t), .slice sa sn sc, .int .i64 (16 + (q : Int))] 33 (0, 0)) ∧ q ≤ 262128 ∧ ∃ a, p = .pointer a

set_option maxHeartbeats 800000 in
set_option maxRecDepth 100000 in
theorem ended_r {db : Nat} {p : Value} {t : List UInt8} {q : Nat} (h : DeskAt w db p t q) {n : Int} :
    Calls Tryd.prog 8 #[.pointer (some ⟨db, 0, none⟩), p, .int .i64 n] w fun e w' => Fr (fun _ => False) w w' ∧ e = .returned stNo := by
  obtain ⟨sa, sn, sc, hb, -, a, rfl⟩ := h
  have hl := blk_lt hb
  have c2 : w.cell? ⟨db, 2, none⟩ = some (.slice sa sn sc) := by simp [World.cell?, hb]
  clear hb
  go_enter Tryd.func8, Tryd.ntmps8
  go_wp2_with fail
  refine start_r.mono ?_
  rintro e w1 ⟨rfl, rfl⟩
  go_wp2_with fail
  refine go_r.mono ?_
  rintro e w2 ⟨rfl, rfl⟩
  go_wp2_with fail
  refine state_r.mono ?_
  rintro e w3 ⟨hF, rfl⟩
  have hb3 := (hF.block _ (by simp) id).trans (blk_new w (.cells #[.int .i64 0, .string ⟨#[]⟩, .slice none 0 0, .int .i64 0] 36))
  obtain ⟨⟨r0, r1, r2, r3⟩, rf0, rf1, rf2, rf3⟩ := cells4 hb3
  have rl := blk_lt hb3
  have HF : Hid (Fr (fun _ => False) w w3) := ((Fr.refl _ w).alloc _).trans hF (fun _ h => h.elim)
  clear hF hb3
  unfold stNo
  go_wp2_with fail
  (try simp only [Exit.inBlock, Exit.then])
  refine bodyPost_ret (v := .agg #[.int .i64 0, .string ⟨#[]⟩, .slice none 0 0, .int .i64 0]) ?_ rfl ⟨(by repeat (first | with_reducible exact HF.out | (with_reducible refine Fr.drew ?_) | (with_reducible refine Fr.drewN ?_ _) | (with_reducible refine Fr.alloc ?_ _) | ((with_reducible refine Fr.setCell ?_ ?_ _); rotate_left; first | exact .inl rfl | exact .inr (Nat.le_refl _) | exact .inl (Nat.le_refl _) | (focus (left; simp; done)) | (focus (left; simp; omega)) | (focus (left; omega)) | (focus (right; simp; done)) | (focus (right; simp; omega)) | (focus (right; omega))))), rfl⟩
  rw [results_cell0 rfl]
  go_simp
end
end Go.Proofs.YtnbhnjokpcdnnaaDoor

/- resumekeep.more where Start answers nothing yet. -/
namespace Go.Proofs.YtnbhnjokpcdnnaaDoor
open Go.RowKit

section
variable {w : World}

theorem DeskAt.fr {w w' : World} {db : Nat} {p : Value} {t : List UInt8} {q : Nat} (h : DeskAt w db p t q) (hF : Fr (fun _ => False) w w') : DeskAt w' db p t q := by
  obtain ⟨sa, sn, sc, hb, h2⟩ := h
  exact ⟨sa, sn, sc, (hF.block _ (blk_lt hb) id).trans hb, h2⟩

theorem st4 {w : World} {q : Nat} {a b c d : Value} {ty : TypeId} (hb : w.heap[q]? = some (.cells #[a, b, c, d] ty (0, 0))) {a' b' c' d' : Value} :
    ((((w.setCell ⟨q, 0, none⟩ a').setCell ⟨q, 1, none⟩ b').setCell ⟨q, 2, none⟩ c').setCell ⟨q, 3, none⟩ d').heap[q]? = some (.cells #[a', b', c', d'] ty (0, 0)) := by
  have h0 := blk_set (i := 0) (v := a') (c' := #[a', b, c, d]) hb rfl
  have h1 := blk_set (i := 1) (v := b') (c' := #[a', b', c, d]) h0 rfl
  have h2 := blk_set (i := 2) (v := c') (c' := #[a', b', c', d]) h1 rfl
  exact blk_set (i := 3) (v := d') (c' := #[a', b', c', d']) h2 rfl

set_option maxHeartbeats 3200000 in
set_option maxRecDepth 100000 in
theorem more_r {db : Nat} {p : Value} {t : List UInt8} {q : Nat} (h : DeskAt w db p t q) {a : Int} (h0 : -9223372036854775808 ≤ a) (h1 : a ≤ 9223372036854775807) :
    Calls Tryd.prog 5 #[.pointer (some ⟨db, 0, none⟩), .int .i64 a] w fun e w' => Fr (fun _ => False) w w' ∧ e = .returned (.bool true) := by
  have HD : Hid (DeskAt w db p t q) := h
  obtain ⟨sa, sn, sc, hb, hq, pa, rfl⟩ := h
  have hl := blk_lt hb
  obtain ⟨⟨c0, c1, c2, c3⟩, -⟩ := cells4 hb
  have e1 : IntKind.i64.wrap (262144 - (16 + (q : Int))) = 262144 - (16 + (q : Int)) := by rw [IntKind.wrap_i64]; omega
  have e2 : IntKind.i64.wrap (262144 - (16 + (q : Int)) + 1) = ((262129 - q : Nat) : Int) := by rw [IntKind.wrap_i64]; omega
  clear hb
  go_enter Tryd.func5, Tryd.ntmps5
  go_wp2_with fail
  refine (pick_r h0 h1 (262129 - q) (by omega) (by omega)).mono ?_
  rintro e w1 ⟨rfl, x, hx, rfl⟩
  have e3 : IntKind.i64.wrap (16 + (q : Int) + (x : Int)) = 16 + (q : Int) + (x : Int) := by rw [IntKind.wrap_i64]; omega
  have HE : Hid (∀ (w' : World), Fr (fun _ => False) w1 w' → ∀ n : Int, Calls Tryd.prog 8 #[.pointer (some ⟨db, 0, none⟩), .pointer pa, .int .i64 n] w' fun e w'' => Fr (fun _ => False) w' w'' ∧ e = .returned stNo) := fun w' hF n => ended_r (HD.out.fr hF)
  clear HD
  unfold stNo at HE
  go_wp2_with fail
  go_cut [6] from 17 to 26 (fun s wx => ∃ b : Nat, s = .pointer (some ⟨b, 0, none⟩) ∧ wx.heap[b]? = some (.cells #[.int .i64 0, .string ⟨#[]⟩, .slice none 0 0, .int .i64 0] 36 (0, 0)) ∧ Fr (fun _ => False) w1 wx)
  case first =>
    go_region_law (rw [if_pos (by simp [Region.wanted])]; unfold Oper.wp; go_simp; go_at_call 8; refine (HE.out _ (by repeat (first | with_reducible exact Fr.refl _ _ | (with_reducible refine Fr.drew ?_) | (with_reducible refine Fr.drewN ?_ _) | (with_reducible refine Fr.alloc ?_ _) | ((with_reducible refine Fr.setCell ?_ ?_ _); rotate_left; first | exact .inl rfl | exact .inr (Nat.le_refl _) | exact .inl (Nat.le_refl _) | (focus (left; simp; done)) | (focus (left; simp; omega)) | (focus (left; omega)) | (focus (right; simp; done)) | (focus (right; simp; omega)) | (focus (right; omega))) | exact Fr.refl _ _)) _).mono ?_; rintro e w2 ⟨hF2, rfl⟩; have HF2 : Hid (Fr (fun _ => False) w1 w2) := Fr.trans (O' := fun _ => False) (b := _) (by repeat (first | with_reducible exact Fr.refl _ _ | (with_reducible refine Fr.drew ?_) | (with_reducible refine Fr.drewN ?_ _) | (with_reducible refine Fr.alloc ?_ _) | ((with_reducible refine Fr.setCell ?_ ?_ _); rotate_left; first | exact .inl rfl | exact .inr (Nat.le_refl _) | exact .inl (Nat.le_refl _) | (focus (left; simp; done)) | (focus (left; simp; omega)) | (focus (left; omega)) | (focus (right; simp; done)) | (focus (right; simp; omega)) | (focus (right; omega))) | exact Fr.refl _ _)) hF2 (fun _ h => h.elim); first | (have hs := (hF2.block w1.heap.size (by simp) id).trans (by first | exact blk_new w1.drew (.cells #[.int .i64 0, .string ⟨#[]⟩, .slice none 0 0, .int .i64 0] 36) | exact blk_new w1 (.cells #[.int .i64 0, .string ⟨#[]⟩, .slice none 0 0, .int .i64 0] 36)); obtain ⟨⟨s0, s1, s2, s3⟩, g0, g1, g2, g3⟩ := cells4 hs; have sl := blk_lt hs) | skip)
    all_goals (try go_wp2_with fail)
    all_goals go_meet
    all_goals first
      | exact ⟨_, rfl, st4 hs, (by repeat (first | with_reducible exact HF2.out | (with_reducible refine Fr.drew ?_) | (with_reducible refine Fr.drewN ?_ _) | (with_reducible refine Fr.alloc ?_ _) | ((with_reducible refine Fr.setCell ?_ ?_ _); rotate_left; first | exact .inl rfl | exact .inr (Nat.le_refl _) | exact .inl (Nat.le_refl _) | (focus (left; simp; done)) | (focus (left; simp; omega)) | (focus (left; omega)) | (focus (right; simp; done)) | (focus (right; simp; omega)) | (focus (right; omega)))))⟩
      | exact ⟨_, rfl, blk_new w2 _, (by repeat (first | with_reducible exact HF2.out | (with_reducible refine Fr.drew ?_) | (with_reducible refine Fr.drewN ?_ _) | (with_reducible refine Fr.alloc ?_ _) | ((with_reducible refine Fr.setCell ?_ ?_ _); rotate_left; first | exact .inl rfl | exact .inr (Nat.le_refl _) | exact .inl (Nat.le_refl _) | (focus (left; simp; done)) | (focus (left; simp; omega)) | (focus (left; omega)) | (focus (right; simp; done)) | (focus (right; simp; omega)) | (focus (right; omega)))))⟩
  case rest =>
    obtain ⟨b, rfl, hb, hF⟩ := hcut
    rename World => wA
    have HB : Hid (wA.heap[b]? = some (.cells #[.int .i64 0, .string ⟨#[]⟩, .slice none 0 0, .int .i64 0] 36 (0, 0))) := hb
    have HF : Hid (Fr (fun _ => False) w1 wA) := hF
    have HE2 : Hid (∀ (w' : World), Fr (fun _ => False) wA w' → ∀ n : Int, Calls Tryd.prog 8 #[.pointer (some ⟨db, 0, none⟩), .pointer pa, .int .i64 n] w' fun e w'' => Fr (fun _ => False) w' w'' ∧ e = .returned (.agg #[.int .i64 0, .string ⟨#[]⟩, .slice none 0 0, .int .i64 0])) := fun w' h n => HE.out w' (HF.out.trans h (fun _ h => h.elim)) n
    have k0 := (cell_fr hF (a := ⟨db, 0, none⟩) hl id).trans c0
    have k3 := (cell_fr hF (a := ⟨db, 3, none⟩) hl id).trans c3
    have hl2 : db < wA.heap.size := Nat.lt_of_lt_of_le hl hF.size
    clear HE c0 c1 c2 c3 hl hb hF
    go_wp2_with fail
    go_cut [7] from 27 to 38 (fun s wx => ∃ b2 : Nat, s = .pointer (some ⟨b2, 0, none⟩) ∧ wx.heap[b2]? = some (.cells #[.int .i64 0, .string ⟨#[]⟩, .slice none 0 0, .int .i64 0] 36 (0, 0)) ∧ Fr (fun _ => False) wA wx)
    case first =>
      go_region_law (rw [if_pos (by simp [Region.wanted])]; unfold Oper.wp; go_simp; go_at_call 8; refine (HE2.out _ (by repeat (first | with_reducible exact Fr.refl _ _ | (with_reducible refine Fr.drew ?_) | (with_reducible refine Fr.drewN ?_ _) | (with_reducible refine Fr.alloc ?_ _) | ((with_reducible refine Fr.setCell ?_ ?_ _); rotate_left; first | exact .inl rfl | exact .inr (Nat.le_refl _) | exact .inl (Nat.le_refl _) | (focus (left; simp; done)) | (focus (left; simp; omega)) | (focus (left; omega)) | (focus (right; simp; done)) | (focus (right; simp; omega)) | (focus (right; omega))) | exact Fr.refl _ _)) _).mono ?_; rintro e w2 ⟨hF2, rfl⟩; have HF2 : Hid (Fr (fun _ => False) wA w2) := Fr.trans (O' := fun _ => False) (b := _) (by repeat (first | with_reducible exact Fr.refl _ _ | (with_reducible refine Fr.drew ?_) | (with_reducible refine Fr.drewN ?_ _) | (with_reducible refine Fr.alloc ?_ _) | ((with_reducible refine Fr.setCell ?_ ?_ _); rotate_left; first | exact .inl rfl | exact .inr (Nat.le_refl _) | exact .inl (Nat.le_refl _) | (focus (left; simp; done)) | (focus (left; simp; omega)) | (focus (left; omega)) | (focus (right; simp; done)) | (focus (right; simp; omega)) | (focus (right; omega))) | exact Fr.refl _ _)) hF2 (fun _ h => h.elim); first | (have hs := (hF2.block wA.heap.size (by simp) id).trans (by first | exact blk_new wA.drew (.cells #[.int .i64 0, .string ⟨#[]⟩, .slice none 0 0, .int .i64 0] 36) | exact blk_new wA (.cells #[.int .i64 0, .string ⟨#[]⟩, .slice none 0 0, .int .i64 0] 36)); obtain ⟨⟨s0, s1, s2, s3⟩, g0, g1, g2, g3⟩ := cells4 hs; have sl := blk_lt hs) | skip)
      all_goals (try go_wp2_with fail)
      all_goals go_meet
      all_goals first
        | exact ⟨_, rfl, st4 hs, (by repeat (first | with_reducible exact HF2.out | (with_reducible refine Fr.drew ?_) | (with_reducible refine Fr.drewN ?_ _) | (with_reducible refine Fr.alloc ?_ _) | ((with_reducible refine Fr.setCell ?_ ?_ _); rotate_left; first | exact .inl rfl | exact .inr (Nat.le_refl _) | exact .inl (Nat.le_refl _) | (focus (left; simp; done)) | (focus (left; simp; omega)) | (focus (left; omega)) | (focus (right; simp; done)) | (focus (right; simp; omega)) | (focus (right; omega)))))⟩
        | exact ⟨_, rfl, blk_new w2 _, (by repeat (first | with_reducible exact HF2.out | (with_reducible refine Fr.drew ?_) | (with_reducible refine Fr.drewN ?_ _) | (with_reducible refine Fr.alloc ?_ _) | ((with_reducible refine Fr.setCell ?_ ?_ _); rotate_left; first | exact .inl rfl | exact .inr (Nat.le_refl _) | exact .inl (Nat.le_refl _) | (focus (left; simp; done)) | (focus (left; simp; omega)) | (focus (left; omega)) | (focus (right; simp; done)) | (focus (right; simp; omega)) | (focus (right; omega)))))⟩
    case rest =>
      obtain ⟨b2, rfl, hb2, hF2⟩ := hcut
      rename World => wB
      have hb1 := (hF2.block _ (blk_lt HB.out) id).trans HB.out
      obtain ⟨⟨s0, s1, s2, s3⟩, -⟩ := cells4 hb1
      obtain ⟨⟨r0, r1, r2, r3⟩, -⟩ := cells4 hb2
      have sl := blk_lt hb1
      have rl := blk_lt hb2
      have HFB : Hid (Fr (fun _ => False) w1 wB) := HF.out.trans hF2 (fun _ h => h.elim)
      clear hb1 hb2 hF2 HE2 k0 k3 hl2 HB HF
      have HS : Hid (∀ w' : World, Calls Tryd.prog 9 #[.agg #[.int .i64 0, .string ⟨#[]⟩, .slice none 0 0, .int .i64 0], .agg #[.int .i64 0, .string ⟨#[]⟩, .slice none 0 0, .int .i64 0]] w' fun e w'' => Fr (fun _ => False) w' w'' ∧ e = .returned (.bool true)) := fun w' => same_r
      go_wp2_with fail
      refine (HS.out _).mono ?_
      rintro e w3 ⟨hF3, rfl⟩
      have HF3 : Hid (Fr (fun _ => False) w1 w3) := HFB.out.trans hF3 (fun _ h => h.elim)
      clear hF3
      go_wp2_with fail
      go_ret
      exact ⟨HF3.out, rfl⟩

end
end Go.Proofs.YtnbhnjokpcdnnaaDoor
