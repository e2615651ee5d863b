import Derived.Deep.LoopGhost
import Derived.Test.YtklimomeendajaaGreatDoorMB0
set_option linter.unusedVariables false
set_option linter.unusedSimpArgs false
/- Same. -/
namespace Go.Proofs.YtklimomeendajaaGreatDoor
open Go.RowKit

def cpC (l : List (Int × Int)) : List Value := l.flatMap fun c => [.int .i32 c.1, .int .i32 c.2]

theorem cpC_len : ∀ l : List (Int × Int), (cpC l).length = l.length * 2
  | [] => rfl
  | c :: l => by have := cpC_len l; simp only [cpC, List.flatMap_cons, List.length_append, List.length_cons, List.length_nil] at this ⊢; omega

theorem cpC_rev (c : Int × Int) (l : List (Int × Int)) : cpC (c :: l).reverse = cpC l.reverse ++ [.int .i32 c.1, .int .i32 c.2] := by simp [cpC]

theorem Tryz.infoCp : (Tryz.prog.info? 332).map (fun i => (i.zero, i.size, i.bytes)) = some (some (.agg #[.int .i32 0, .int .i32 0]), 2, 8) := by kernel_rfl
theorem slCp : SlT Tryz.prog 333 332 (.agg #[.int .i32 0, .int .i32 0]) 2 8 := ⟨Tryz.underlying333, by
  cases hi : Tryz.prog.info? 332 with
  | none => have := Tryz.infoCp; rw [hi] at this; cases this
  | some i =>
    have := Tryz.infoCp
    rw [hi] at this
    simp only [Option.map_some, Option.some.injEq, Prod.mk.injEq] at this
    exact ⟨i, rfl, this.1, this.2.1, this.2.2⟩, rfl, by decide⟩

/-- The cells of a new block. -/
theorem cells_new (w : World) {c : List Value} {t : TypeId} {f : Nat × Nat} {k j : Nat} {u : Value} (hk : k = w.heap.size) (hj : c[j]? = some u) : (w.alloc (.cells c.toArray t f)).cell? (Addr.add ⟨k, 0, none⟩ j) = some u := by
  have e : Addr.add ⟨k, 0, none⟩ j = ⟨k, j, none⟩ := by
    unfold Addr.add
    split
    · rename_i h0; rw [h0]
    · simp
  rw [e, cell_new _ hk]
  simpa using hj

/-- The top of a row of couples. -/
theorem cpTop {w : World} {base : Nat} {dv : Value} {cp : Int × Int} {due : List (Int × Int)} (h : w.ownsRow base 332 2 dv (cp :: due).length (cpC (cp :: due).reverse)) :
    ∃ g cap, dv = .slice (some ⟨g, 0, none⟩) (due.length + 1) cap ∧ w.cell? ⟨g, due.length * 2, none⟩ = some (.int .i32 cp.1) ∧ w.cell? ⟨g, due.length * 2 + 1, none⟩ = some (.int .i32 cp.2) ∧ g < w.heap.size ∧ base ≤ g ∧ due.length + 1 ≤ cap ∧ due.length + 1 ≤ maxLen ∧
      w.ownsRow base 332 2 (.slice (some ⟨g, 0, none⟩) due.length cap) due.length (cpC due.reverse) := by
  have h' := h
  rcases h.2 with ⟨_, h0⟩ | ⟨g, cap, cur, rfl, hb, hg, hc, hm, hcs, ht⟩
  · simp at h0
  · have hl : (cpC due.reverse).length = due.length * 2 := by rw [cpC_len]; simp
    refine ⟨g, cap, by simp, ?_, ?_, (h.lt g rfl).2, hb, by simpa using hc, by simpa using Nat.le_trans hc hm, ?_⟩
    · rw [World.ownsRow.cellAt h' _ (by simp), cpC_rev, List.getElem?_append_right (by omega), hl]; simp
    · rw [World.ownsRow.cellAt h' _ (by simp; omega), cpC_rev, List.getElem?_append_right (by omega), hl]; simp
    · have := ownsRow_cut h' (k := due.length) (by simp)
      rw [cpC_rev, List.take_append_of_le_length (by omega), ← hl, List.take_length] at this
      exact this

section
variable {w w' w1 w2 : World} {f o : Nat} {ty : TypeId} {c : Array Value} {s s' s2 : SX} {G G' : Value} {bk bk' : List Nat} {t : Int} {x x' : ND}

/-- What is new since w lies as it lay. -/
theorem So.kp (h : So w f o ty c s G bk) {W W' : World} (hF : Fr (fun b => b ∈ bk) W W') {k : Nat} {ob : Obj} (hk : w.heap.size ≤ k) (hb : W.heap[k]? = some ob) : W'.heap[k]? = some ob :=
  (hF.block k (blk_lt hb) (fun hm => h.new hk (.inr (.inr hm)))).trans hb

theorem So.kpR (h : So w f o ty c s G bk) {W W' : World} (hF : Fr (fun b => b ∈ bk) W W') {e : TypeId} {z n : Nat} {v : Value} {xs : List Value} (hr : W.ownsRow w.heap.size e z v n xs) : W'.ownsRow w.heap.size e z v n xs :=
  ownsRow_block hr fun b hb => hF.block b (hr.lt b hb).2 (fun hm => h.new (hr.lt b hb).1 (.inr (.inr hm)))

theorem So.grow (h : So w f o ty c s G bk) {W W' : World} {row : Option Nat} {s1 : SX} (h1 : So W f o ty c s1 G bk) (hg : W.grownBy W' row) (hr : ∀ b, row = some b → w.heap.size ≤ b) : So W' f o ty c s1 G bk :=
  h.out h1 ((Fr.refl _ W).grown hg fun k hk => .inl (hr k hk))

set_option maxHeartbeats 600000 in
set_option maxRecDepth 100000 in
theorem same_so (h : So w f o ty c s G bk) {n : Nat} {l r : Int} {b : Bool} (hx : xSame n s [(l, r)] = some (s', b)) :
    Calls Tryz.prog 221 #[.pointer (some ⟨f, o, none⟩), .int .i32 l, .int .i32 r] w fun e w' => e = .returned (.bool b) ∧ So w' f o ty c s' G bk ∧ Fr (fun b => b ∈ bk) w w' := by
  have HS : Hid (So w f o ty c s G bk) := h
  have HX : Hid (xSame n s [(l, r)] = some (s', b)) := hx
  clear h hx
  go_enter Tryz.func221, Tryz.ntmps221
  go_wp2_with fail
  go_loopg [7] n (fun k dv wr => ∃ (due : List (Int × Int)) (sk : SX), wr.ownsRow w.heap.size 332 2 dv due.length (cpC due.reverse) ∧ xSame k sk due = some (s', b) ∧ So wr f o ty c sk G bk ∧ Fr (fun b => b ∈ bk) w wr)
  case atStart =>
    refine ⟨[(l, r)], s, ?_, HX.out, HS.out.fr (by repeat (first | with_reducible exact Fr.refl _ _ | (with_reducible refine Fr.drew ?_) | (with_reducible refine Fr.drewN ?_ _) | (with_reducible refine Fr.alloc ?_ _) | ((with_reducible refine Fr.setCell ?_ ?_ _); rotate_left; first | exact .inl rfl | exact .inr (Nat.le_refl _) | exact .inl (Nat.le_refl _) | (focus (left; simp; done)) | (focus (left; simp; omega)) | (focus (left; omega)) | (focus (right; simp; done)) | (focus (right; simp; omega)) | (focus (right; omega))) | exact Fr.refl _ _)), (Fr.refl _ _).alloc _⟩
    refine ⟨rfl, .inr ⟨w.heap.size, 1, #[.int .i32 l, .int .i32 r], rfl, Nat.le_refl _, blk_new w _, Nat.le_refl _, by decide, rfl, rfl⟩⟩
  case round =>
    obtain ⟨due, sk, hrow, hk, hS, hF⟩ := hrel
    cases gk with
    | zero => cases hk
    | succ k =>
    cases due with
    | nil =>
      rw [xSame] at hk
      injection hk with hk
      injection hk with e1 e2
      subst e1 e2
      have HE : Hid (So wr f o ty c sk G bk ∧ Fr (fun b => b ∈ bk) w wr) := ⟨hS, hF⟩
      obtain ⟨da, dc, rfl⟩ := ownsRow_len hrow
      clear hS hF hrow
      simp only [List.length_nil]
      go_wp2_with fail
      go_ret
      exact ⟨rfl, HE.out⟩
    | cons cp due =>
    rw [xSame] at hk
    by_cases hbig : 1000000000000 < due.length
    · rw [if_pos hbig] at hk; cases hk
    rw [if_neg hbig] at hk
    obtain ⟨⟨s1, e1⟩, hf1, hk⟩ := bindO hk
    obtain ⟨⟨s2, e2⟩, hf2, hk⟩ := bindO hk
    obtain ⟨g, cap, rfl, q0, q1, hg, hgb, hcap, hmax, hrow'⟩ := cpTop hrow
    have HS1 : Hid (So wr f o ty c sk G bk) := hS
    have HF1 : Hid (Fr (fun b => b ∈ bk) w wr) := hF
    have HR1 : Hid (wr.ownsRow w.heap.size 332 2 (.slice (some ⟨g, 0, none⟩) due.length cap) due.length (cpC due.reverse)) := hrow'
    have H1 : Hid (xFind k sk cp.1 = some (s1, e1)) := hf1
    have H2 : Hid (xFind k s1 cp.2 = some (s2, e2)) := hf2
    have HK : Hid _ := hk
    have hd : due.length < 9223372036854775807 := by unfold maxLen at hmax; omega
    have hge := hF.size
    clear hrow hrow' hS hF hf1 hf2 hk HX
    go_wp2_with fail
    have hL : (wr.alloc (.cells #[.int .i32 cp.1, .int .i32 cp.2] 332)).heap[wr.heap.size]? = some (.cells #[.int .i32 cp.1, .int .i32 cp.2] 332 (0, 0)) := blk_new wr _
    have HSw : Hid (So (wr.alloc (.cells #[.int .i32 cp.1, .int .i32 cp.2] 332)) f o ty c sk G bk) := HS1.out.fr (by repeat (first | with_reducible exact Fr.refl _ _ | (with_reducible refine Fr.drew ?_) | (with_reducible refine Fr.drewN ?_ _) | (with_reducible refine Fr.alloc ?_ _) | ((with_reducible refine Fr.setCell ?_ ?_ _); rotate_left; first | exact .inl rfl | exact .inr (Nat.le_refl _) | exact .inl (Nat.le_refl _) | (focus (left; simp; done)) | (focus (left; simp; omega)) | (focus (left; omega)) | (focus (right; simp; done)) | (focus (right; simp; omega)) | (focus (right; omega))) | exact Fr.refl _ _))
    have HRw : Hid ((wr.alloc (.cells #[.int .i32 cp.1, .int .i32 cp.2] 332)).ownsRow w.heap.size 332 2 (.slice (some ⟨g, 0, none⟩) due.length cap) due.length (cpC due.reverse)) := HR1.out.alloc _
    have HFw : Hid (Fr (fun b => b ∈ bk) w (wr.alloc (.cells #[.int .i32 cp.1, .int .i32 cp.2] 332))) := HF1.out.alloc _
    have HL : Hid _ := hL
    clear hL
    generalize wr.alloc (.cells #[.int .i32 cp.1, .int .i32 cp.2] 332) = wa at *
    refine (find_so HSw.out H1.out).mono ?_
    rintro e3 w3 ⟨rfl, hS3, hF3⟩
    have HL3 := HS.out.kp hF3 hge HL.out
    obtain ⟨-, l1, -, -⟩ := cells2 HL3
    have hl3 := blk_lt HL3
    have HS3 : Hid (So w3 f o ty c s1 G bk) := hS3
    have HR3 : Hid (w3.ownsRow w.heap.size 332 2 (.slice (some ⟨g, 0, none⟩) due.length cap) due.length (cpC due.reverse)) := HS.out.kpR hF3 HRw.out
    have HF3 : Hid (Fr (fun b => b ∈ bk) w w3) := HFw.out.trans hF3 (fun _ h => .inl h)
    clear hS3 hF3 HL3 HSw HRw HFw HL q0 q1
    go_wp2_with fail
    refine (find_so HS3.out H2.out).mono ?_
    rintro e4 w4 ⟨rfl, hS4, hF4⟩
    have HS4 : Hid (So w4 f o ty c s2 G bk) := hS4
    have HR4 : Hid (w4.ownsRow w.heap.size 332 2 (.slice (some ⟨g, 0, none⟩) due.length cap) due.length (cpC due.reverse)) := HS.out.kpR hF4 HR3.out
    have HF4 : Hid (Fr (fun b => b ∈ bk) w w4) := HF3.out.trans hF4 (fun _ h => .inl h)
    have hge4 := HF4.out.size
    have hk := HK.out
    clear hS4 hF4 HR3 HF3 HS3 l1 hl3 HK
    by_cases hlr : e1 = e2
    · rw [if_pos hlr] at hk
      have HK : Hid _ := hk
      clear hk
      subst hlr
      go_wp2_with fail
      go_roundg k
      case measure => omega
      case rel => exact ⟨due, s2, HR4.out, HK.out, HS4.out, HF4.out⟩
    rw [if_neg hlr] at hk
    obtain ⟨a, ha, hk⟩ := bindO hk
    obtain ⟨z, hz, hk⟩ := bindO hk
    have HA : Hid (xAt s2 e1 = some a) := ha
    have HZ : Hid (xAt s2 e2 = some z) := hz
    obtain ⟨ba, ma, hda⟩ := adr_ex bk e1
    obtain ⟨bz, mz, hdz⟩ := adr_ex bk e2
    have HDA : Hid (adr bk e1 = ⟨ba, ma, none⟩) := hda
    have HDZ : Hid (adr bk e2 = ⟨bz, mz, none⟩) := hdz
    obtain ⟨hba, a0, a1, a2, a3, a4, a5, -⟩ := HS4.out.six ha hda
    obtain ⟨hbz, z0, z1, z2, z3, z4, z5, -⟩ := HS4.out.six hz hdz
    have HK : Hid _ := hk
    obtain ⟨ak, hak⟩ : ∃ ak : Int, (a.k : Int) = ak := ⟨_, rfl⟩
    obtain ⟨zk, hzk⟩ : ∃ zk : Int, (z.k : Int) = zk := ⟨_, rfl⟩
    rw [hak] at a0
    rw [hzk] at z0
    have HAK : Hid ((a.k : Int) = ak) := hak
    have HZK : Hid ((z.k : Int) = zk) := hzk
    clear ha hz hda hdz hk hak hzk
    go_wp2_with fail
    refine (at_so HS4.out HA.out HDA.out).mono ?_
    rintro e5 w5 ⟨rfl, rfl⟩
    go_wp2_with fail
    refine (at_so (HS4.out.fr (by repeat (first | with_reducible exact Fr.refl _ _ | (with_reducible refine Fr.drew ?_) | (with_reducible refine Fr.drewN ?_ _) | (with_reducible refine Fr.alloc ?_ _) | ((with_reducible refine Fr.setCell ?_ ?_ _); rotate_left; first | exact .inl rfl | exact .inr (Nat.le_refl _) | exact .inl (Nat.le_refl _) | (focus (left; simp; done)) | (focus (left; simp; omega)) | (focus (left; omega)) | (focus (right; simp; done)) | (focus (right; simp; omega)) | (focus (right; omega))) | exact Fr.refl _ _))) HZ.out HDZ.out).mono ?_
    rintro e6 w6 ⟨rfl, rfl⟩
    have hL : (w5.alloc (.cells #[.int .u8 ak, .bool a.op, .int .i32 a.a, .int .i32 a.b, .int .i32 a.mrk, .int .i32 a.nt] 213)).heap[w5.heap.size]? = some (.cells #[.int .u8 ak, .bool a.op, .int .i32 a.a, .int .i32 a.b, .int .i32 a.mrk, .int .i32 a.nt] 213 (0, 0)) := blk_new w5 _
    have hM := blk_new (w5.alloc (.cells #[.int .u8 ak, .bool a.op, .int .i32 a.a, .int .i32 a.b, .int .i32 a.mrk, .int .i32 a.nt] 213)) (.cells #[.int .u8 zk, .bool z.op, .int .i32 z.a, .int .i32 z.b, .int .i32 z.mrk, .int .i32 z.nt] 213)
    have hL' := (Below.heap_alloc _ (.cells #[.int .u8 zk, .bool z.op, .int .i32 z.a, .int .i32 z.b, .int .i32 z.mrk, .int .i32 z.nt] 213) _ (blk_lt hL)).trans hL
    rw [show (w5.alloc (.cells #[.int .u8 ak, .bool a.op, .int .i32 a.a, .int .i32 a.b, .int .i32 a.mrk, .int .i32 a.nt] 213)).heap.size = w5.heap.size + 1 by simp] at hM
    have HS6 : Hid (So ((w5.alloc (.cells #[.int .u8 ak, .bool a.op, .int .i32 a.a, .int .i32 a.b, .int .i32 a.mrk, .int .i32 a.nt] 213)).alloc (.cells #[.int .u8 zk, .bool z.op, .int .i32 z.a, .int .i32 z.b, .int .i32 z.mrk, .int .i32 z.nt] 213)) f o ty c s2 G bk) := HS4.out.fr (by repeat (first | with_reducible exact Fr.refl _ _ | (with_reducible refine Fr.drew ?_) | (with_reducible refine Fr.drewN ?_ _) | (with_reducible refine Fr.alloc ?_ _) | ((with_reducible refine Fr.setCell ?_ ?_ _); rotate_left; first | exact .inl rfl | exact .inr (Nat.le_refl _) | exact .inl (Nat.le_refl _) | (focus (left; simp; done)) | (focus (left; simp; omega)) | (focus (left; omega)) | (focus (right; simp; done)) | (focus (right; simp; omega)) | (focus (right; omega))) | exact Fr.refl _ _))
    have HF6 : Hid (Fr (fun b => b ∈ bk) w ((w5.alloc (.cells #[.int .u8 ak, .bool a.op, .int .i32 a.a, .int .i32 a.b, .int .i32 a.mrk, .int .i32 a.nt] 213)).alloc (.cells #[.int .u8 zk, .bool z.op, .int .i32 z.a, .int .i32 z.b, .int .i32 z.mrk, .int .i32 z.nt] 213))) := (HF4.out.alloc _).alloc _
    have HR6 : Hid (((w5.alloc (.cells #[.int .u8 ak, .bool a.op, .int .i32 a.a, .int .i32 a.b, .int .i32 a.mrk, .int .i32 a.nt] 213)).alloc (.cells #[.int .u8 zk, .bool z.op, .int .i32 z.a, .int .i32 z.b, .int .i32 z.mrk, .int .i32 z.nt] 213)).ownsRow w.heap.size 332 2 (.slice (some ⟨g, 0, none⟩) due.length cap) due.length (cpC due.reverse)) := (HR4.out.alloc _).alloc _
    have HL : Hid _ := hL'
    have HM : Hid _ := hM
    have hk := HK.out
    clear hL hL' hM HK HS4 HF4 HR4 hge
    by_cases hz0 : z.k = 0
    · rw [if_pos hz0] at hk
      have HK : Hid _ := hk
      have hz0' : zk = 0 := by have := HZK.out; omega
      clear hk hz0
      subst hz0'
      go_wp2_with fail
      refine (link_so HS6.out HZ.out e1).mono ?_
      rintro e7 w7 ⟨rfl, hS7, hF7⟩
      have HR7 : Hid (w7.ownsRow w.heap.size 332 2 (.slice (some ⟨g, 0, none⟩) due.length cap) due.length (cpC due.reverse)) := HS.out.kpR hF7 HR6.out
      have HS7 : Hid (So w7 f o ty c (xLink s2 e2 e1) G bk ∧ Fr (fun b => b ∈ bk) w w7) := ⟨hS7, HF6.out.trans hF7 (fun _ h => .inl h)⟩
      clear hS7 hF7
      go_wp2_with fail
      go_roundg k
      case measure => omega
      case rel => exact ⟨due, xLink s2 e2 e1, HR7.out, HK.out, HS7.out.1, HS7.out.2⟩
    rw [if_neg hz0] at hk
    by_cases hac : a.k ≠ 0 ∧ a.k ≠ z.k
    · rw [if_pos hac] at hk
      injection hk with hk
      injection hk with k1 k2
      subst k1 k2
      have n1 : (zk == 0) = false := by have := HZK.out; simp; omega
      have n2 : (ak == 0) = false := by have := HAK.out; simp; omega
      have n3 : (ak == zk) = false := by have := HAK.out; have := HZK.out; simp; omega
      clear hac hz0
      have m1 : ¬ ak = 0 := by simpa using n2
      have m2 : (ak != 0) = true := by simpa using m1
      have m3 : (ak != zk) = true := by simpa using n3
      go_wp2_with fail
      go_ret
      exact ⟨rfl, HS6.out, HF6.out⟩
    rw [if_neg hac] at hk
    have HK : Hid _ := hk
    have n1 : (zk == 0) = false := by have := HZK.out; simp; omega
    have hor : ak = 0 ∨ (ak == zk) = true := by
      have e1 := HAK.out
      have e2 := HZK.out
      by_cases h0 : a.k = 0
      · left; omega
      · right; have : ¬ (a.k ≠ z.k) := fun h => hac ⟨h0, h⟩; simp; omega
    clear hk hac hz0 HZK
    by_cases h34 : a.k = 3 ∨ a.k = 4
    · have hk := HK.out
      rw [if_pos h34] at hk
      clear HK
      have HK : Hid _ := hk
      have h34' : ak = 3 ∨ ak = 4 := by have := HAK.out; omega
      clear hk h34
      have h0 : (ak == 0) = false := by rcases h34' with rfl | rfl <;> rfl
      have hor' : (ak == zk) = true := by rcases hor with rfl | h; cases h0; exact h
      have hzz : zk = ak := by simpa using (beq_iff_eq.1 hor').symm
      subst hzz
      clear hor hor' HAK
      rcases h34' with rfl | rfl
      all_goals
        go_wp2_with fail
        refine (link_so HS6.out HA.out e2).mono ?_
        rintro e7 w7 ⟨rfl, hS7, hF7⟩
        have hL7 := HS.out.kp hF7 hge4 HL.out
        have hM7 := HS.out.kp hF7 (by omega) HM.out
        have HR7 : Hid (w7.ownsRow w.heap.size 332 2 (.slice (some ⟨g, 0, none⟩) due.length cap) due.length (cpC due.reverse)) := HS.out.kpR hF7 HR6.out
        have HS7 : Hid (So w7 f o ty c (xLink s2 e1 e2) G bk) := hS7
        have HF7 : Hid (Fr (fun b => b ∈ bk) w w7) := HF6.out.trans hF7 (fun _ h => .inl h)
        obtain ⟨a0', a1', a2', a3', a4', a5'⟩ := cells6 hL7
        obtain ⟨z0', z1', z2', z3', z4', z5'⟩ := cells6 hM7
        have la7 := blk_lt hL7
        have lz7 := blk_lt hM7
        clear hS7 hF7 hL7 hM7 a0 a1 a2 a3 a4 a5 z0 z1 z2 z3 z4 z5 HR6 HS6 HF6 HL HM
        go_wp2_with (at_builtin; refine wpList_app slCp rfl (.tmp 78) (.tmp 84) rfl w.heap.size due.length (cpC due.reverse) _ rfl (HR7.out.alloc _) ⟨w7.heap.size, 0, none⟩ 1 1 [.int .i32 a.a, .int .i32 z.a] rfl rfl ?c1 ?c2 (by decide) ?b1 ?b2 ?b3 ?grow)
        case c1 => intro j u hj; exact cells_new w7 rfl hj
        case c2 => intro u hu; simp at hu; rcases hu with rfl | rfl <;> rfl
        case b1 => unfold maxLen; omega
        case b2 => omega
        case b3 => simp; omega
        case grow =>
          intro v' w9 hown hgrow hv g' cap' hfm
          subst hfm
          have HG : Hid (∀ b, (Value.slice (some ⟨g, 0, none⟩) due.length cap).ownBlock = some b → w.heap.size ≤ b) := fun b hb => by injection hb with hb; subst hb; exact hgb
          have HS9 : Hid (So w9 f o ty c (xLink s2 e1 e2) G bk) := HS.out.grow (HS7.out.fr (by repeat (first | with_reducible exact Fr.refl _ _ | (with_reducible refine Fr.drew ?_) | (with_reducible refine Fr.drewN ?_ _) | (with_reducible refine Fr.alloc ?_ _) | ((with_reducible refine Fr.setCell ?_ ?_ _); rotate_left; first | exact .inl rfl | exact .inr (Nat.le_refl _) | exact .inl (Nat.le_refl _) | (focus (left; simp; done)) | (focus (left; simp; omega)) | (focus (left; omega)) | (focus (right; simp; done)) | (focus (right; simp; omega)) | (focus (right; omega))) | exact Fr.refl _ _))) hgrow HG.out
          have HF9 : Hid (Fr (fun b => b ∈ bk) w w9) := (HF7.out.alloc _).grown hgrow (fun b hb => .inr (HG.out b hb))
          have HR9 : Hid (w9.ownsRow w.heap.size 332 2 (.slice (some ⟨g', 0, none⟩) (due.length + 1) cap') ((a.a, z.a) :: due).length (cpC ((a.a, z.a) :: due).reverse)) := by
            have : cpC ((a.a, z.a) :: due).reverse = cpC due.reverse ++ [.int .i32 a.a, .int .i32 z.a] := by simp [cpC]
            show World.ownsRow _ _ _ _ _ _ _
            rw [this]
            exact hown
          clear hown hgrow hv
          go_wp2_with fail
          go_roundg k
          case measure => omega
          case rel => exact ⟨(a.a, z.a) :: due, xLink s2 e1 e2, HR9.out, HK.out, HS9.out, HF9.out⟩
    by_cases h56 : a.k = 5 ∨ a.k = 6
    · have hk := HK.out
      rw [if_neg h34, if_pos h56] at hk
      clear HK
      have HK : Hid _ := hk
      have h56' : ak = 5 ∨ ak = 6 := by have := HAK.out; omega
      clear hk h34 h56
      have h0 : (ak == 0) = false := by rcases h56' with rfl | rfl <;> rfl
      have hor' : (ak == zk) = true := by rcases hor with rfl | h; cases h0; exact h
      have hzz : zk = ak := by simpa using (beq_iff_eq.1 hor').symm
      subst hzz
      clear hor hor' HAK
      rcases h56' with rfl | rfl
      all_goals
        go_wp2_with fail
        refine (link_so HS6.out HA.out e2).mono ?_
        rintro e7 w7 ⟨rfl, hS7, hF7⟩
        have hL7 := HS.out.kp hF7 hge4 HL.out
        have hM7 := HS.out.kp hF7 (by omega) HM.out
        have HR7 : Hid (w7.ownsRow w.heap.size 332 2 (.slice (some ⟨g, 0, none⟩) due.length cap) due.length (cpC due.reverse)) := HS.out.kpR hF7 HR6.out
        have HS7 : Hid (So w7 f o ty c (xLink s2 e1 e2) G bk) := hS7
        have HF7 : Hid (Fr (fun b => b ∈ bk) w w7) := HF6.out.trans hF7 (fun _ h => .inl h)
        obtain ⟨a0', a1', a2', a3', a4', a5'⟩ := cells6 hL7
        obtain ⟨z0', z1', z2', z3', z4', z5'⟩ := cells6 hM7
        have la7 := blk_lt hL7
        have lz7 := blk_lt hM7
        clear hS7 hF7 hL7 hM7 a0 a1 a2 a3 a4 a5 z0 z1 z2 z3 z4 z5 HR6 HS6 HF6 HL HM
        go_wp2_with (at_builtin; refine wpList_app slCp rfl (.tmp 89) (.tmp 100) rfl w.heap.size due.length (cpC due.reverse) _ rfl (HR7.out.alloc _) ⟨w7.heap.size, 0, none⟩ 2 2 [.int .i32 a.a, .int .i32 z.a, .int .i32 a.b, .int .i32 z.b] rfl rfl ?c1 ?c2 (by decide) ?b1 ?b2 ?b3 ?grow)
        case c1 => intro j u hj; exact cells_new w7 rfl hj
        case c2 => intro u hu; simp at hu; rcases hu with rfl | rfl | rfl | rfl <;> rfl
        case b1 => unfold maxLen; omega
        case b2 => omega
        case b3 => simp; omega
        case grow =>
          intro v' w9 hown hgrow hv g' cap' hfm
          subst hfm
          have HG : Hid (∀ b, (Value.slice (some ⟨g, 0, none⟩) due.length cap).ownBlock = some b → w.heap.size ≤ b) := fun b hb => by injection hb with hb; subst hb; exact hgb
          have HS9 : Hid (So w9 f o ty c (xLink s2 e1 e2) G bk) := HS.out.grow (HS7.out.fr (by repeat (first | with_reducible exact Fr.refl _ _ | (with_reducible refine Fr.drew ?_) | (with_reducible refine Fr.drewN ?_ _) | (with_reducible refine Fr.alloc ?_ _) | ((with_reducible refine Fr.setCell ?_ ?_ _); rotate_left; first | exact .inl rfl | exact .inr (Nat.le_refl _) | exact .inl (Nat.le_refl _) | (focus (left; simp; done)) | (focus (left; simp; omega)) | (focus (left; omega)) | (focus (right; simp; done)) | (focus (right; simp; omega)) | (focus (right; omega))) | exact Fr.refl _ _))) hgrow HG.out
          have HF9 : Hid (Fr (fun b => b ∈ bk) w w9) := (HF7.out.alloc _).grown hgrow (fun b hb => .inr (HG.out b hb))
          have HR9 : Hid (w9.ownsRow w.heap.size 332 2 (.slice (some ⟨g', 0, none⟩) (due.length + 2) cap') ((a.b, z.b) :: (a.a, z.a) :: due).length (cpC ((a.b, z.b) :: (a.a, z.a) :: due).reverse)) := by
            have : cpC ((a.b, z.b) :: (a.a, z.a) :: due).reverse = cpC due.reverse ++ [.int .i32 a.a, .int .i32 z.a, .int .i32 a.b, .int .i32 z.b] := by simp [cpC]
            show World.ownsRow _ _ _ _ _ _ _
            rw [this]
            exact hown
          clear hown hgrow hv
          go_wp2_with fail
          go_roundg k
          case measure => omega
          case rel => exact ⟨(a.b, z.b) :: (a.a, z.a) :: due, xLink s2 e1 e2, HR9.out, HK.out, HS9.out, HF9.out⟩
    have hk := HK.out
    rw [if_neg h34, if_neg h56] at hk
    clear HK
    have HK : Hid _ := hk
    have k3 : (ak == 3) = false := by have := HAK.out; simp; omega
    have k4 : (ak == 4) = false := by have := HAK.out; simp; omega
    have k5 : (ak == 5) = false := by have := HAK.out; simp; omega
    have k6 : (ak == 6) = false := by have := HAK.out; simp; omega
    clear hk h34 h56 HAK
    have hor2 : ak = 0 ∨ zk = ak := by
      rcases hor with h | h
      · exact .inl h
      · exact .inr (beq_iff_eq.1 h).symm
    clear hor
    have m1 : ¬ zk = 0 := by simpa using n1
    have m2 : (zk != 0) = true := by simpa using m1
    rcases hor2 with rfl | rfl
    all_goals
      go_wp2_with fail
      refine (link_so HS6.out HA.out e2).mono ?_
      rintro e7 w7 ⟨rfl, hS7, hF7⟩
      have hL7 := HS.out.kp hF7 hge4 HL.out
      have hM7 := HS.out.kp hF7 (by omega) HM.out
      have HR7 : Hid (w7.ownsRow w.heap.size 332 2 (.slice (some ⟨g, 0, none⟩) due.length cap) due.length (cpC due.reverse)) := HS.out.kpR hF7 HR6.out
      have HS7 : Hid (So w7 f o ty c (xLink s2 e1 e2) G bk) := hS7
      have HF7 : Hid (Fr (fun b => b ∈ bk) w w7) := HF6.out.trans hF7 (fun _ h => .inl h)
      obtain ⟨a0', a1', a2', a3', a4', a5'⟩ := cells6 hL7
      obtain ⟨z0', z1', z2', z3', z4', z5'⟩ := cells6 hM7
      have la7 := blk_lt hL7
      have lz7 := blk_lt hM7
      clear hS7 hF7 hL7 hM7 a0 a1 a2 a3 a4 a5 z0 z1 z2 z3 z4 z5 HR6 HS6 HF6 HL HM
      go_wp2_with fail
      go_roundg k
      case measure => omega
      case rel => exact ⟨due, xLink s2 e1 e2, HR7.out, HK.out, HS7.out, HF7.out⟩
end
end Go.Proofs.YtklimomeendajaaGreatDoor
