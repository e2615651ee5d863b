import Derived.Test.YtnbhnjokpcdnnaaGreatDoorQA6
import Derived.Test.YtnbhnjokpcdnnaaGreatDoorQA7
import Derived.Test.YtnbhnjokpcdnnaaGreatDoorQC0
import Derived.OwnWalk
import Derived.LaidEqlPtr
import Derived.Deep.RegionLaw
set_option linter.unusedSimpArgs false
set_option linter.unusedVariables false

namespace Go.Proofs.YtnbhnjokpcdnnaaGreatDoor
open Go.RowKit

def ptrV (b : Nat) : Value := .pointer (some ⟨b, 0, none⟩)
def optV : Option Nat → Value
  | none => .pointer none
  | some b => .pointer (some ⟨b, 0, none⟩)

/-- The types as they lie: all in blocks from base on. -/
structure TS (w : World) (m : Nat → Option TN) (base : Nat) : Prop where
  at_ : ∀ b t, m b = some t → base ≤ b ∧ ∃ sv, w.heap[b]? = some (.cells #[.string (bs t.k), sv, optV t.is, .int .i64 t.seen] 114 (0, 0)) ∧ w.ownsRow base 50 1 sv t.subs.length (t.subs.map ptrV)

section
variable {w w' : World} {m : Nat → Option TN} {base : Nat}

theorem TS.lt (h : TS w m base) {b : Nat} {t : TN} (hb : m b = some t) : b < w.heap.size := by
  obtain ⟨-, sv, h1, -⟩ := h.at_ b t hb
  exact (Array.getElem?_eq_some_iff.1 h1).1

theorem TS.cells (h : TS w m base) {b : Nat} {t : TN} (hb : m b = some t) : b < w.heap.size ∧ w.cell? ⟨b, 0, none⟩ = some (.string (bs t.k)) ∧ w.cell? ⟨b, 2, none⟩ = some (optV t.is) ∧ w.cell? ⟨b, 3, none⟩ = some (.int .i64 t.seen) ∧ ∀ i, w.frozen? ⟨b, i, none⟩ = false := by
  obtain ⟨-, sv, h1, -⟩ := h.at_ b t hb
  refine ⟨h.lt hb, ?_, ?_, ?_, fun i => ?_⟩ <;> simp [World.cell?, World.frozen?, h1]

theorem TS.sub (h : TS w m base) {b : Nat} {t : TN} (hb : m b = some t) {i : Nat} (hi : i < t.subs.length) : ∃ g c, w.cell? ⟨b, 1, none⟩ = some (.slice (some ⟨g, 0, none⟩) t.subs.length c) ∧ g < w.heap.size ∧ w.cell? ⟨g, i, none⟩ = some (ptrV t.subs[i]) := by
  obtain ⟨-, sv, h1, h2⟩ := h.at_ b t hb
  rcases h2.2 with ⟨_, h0⟩ | ⟨g, cap, cur, rfl, hg⟩
  · omega
  · refine ⟨g, cap, by simp [World.cell?, h1], (h2.lt g rfl).2, ?_⟩
    rw [World.ownsRow.cellAt h2 i (by omega)]
    simp [hi]

theorem TS.len (h : TS w m base) {b : Nat} {t : TN} (hb : m b = some t) : ∃ a c, w.cell? ⟨b, 1, none⟩ = some (.slice a t.subs.length c) := by
  obtain ⟨-, sv, h1, h2⟩ := h.at_ b t hb
  obtain ⟨a, c, rfl⟩ := ownsRow_len h2
  exact ⟨a, c, by simp [World.cell?, h1]⟩

/-- The rows lie in no block of a type. -/
theorem TS.row (h : TS w m base) {b : Nat} {t : TN} (hb : m b = some t) {sv : Value} {n : Nat} {cs : List Value} (hr : w.ownsRow base 50 1 sv n cs) : sv.ownBlock ≠ some b := by
  intro hs
  obtain ⟨-, sv', h1, -⟩ := h.at_ b t hb
  rcases hr.2 with ⟨rfl, _⟩ | ⟨g, cap, cur, rfl, hg, hh, _⟩
  · cases hs
  · cases hs
    rw [h1] at hh
    injection hh with hh
    injection hh with _ hh
    exact absurd hh (by decide)

/-- Only blocks that are no types' were written. -/
theorem TS.fr (h : TS w m base) {O : Nat → Prop} (hF : Fr O w w') (hO : ∀ b t, m b = some t → ¬ O b) (hR : ∀ b t sv n cs, m b = some t → w.ownsRow base 50 1 sv n cs → ∀ g, sv.ownBlock = some g → ¬ O g) : TS w' m base := by
  refine ⟨fun b t hb => ?_⟩
  obtain ⟨h0, sv, h1, h2⟩ := h.at_ b t hb
  exact ⟨h0, sv, (hF.block b (h.lt hb) (hO b t hb)).trans h1, ownsRow_block h2 fun g hg => hF.block g (h2.lt g hg).2 (hR b t sv _ _ hb h2 g hg)⟩

theorem TS.grow (h : TS w m base) (hF : Fr (fun _ => False) w w') : TS w' m base := h.fr hF (fun _ _ _ h => h) (fun _ _ _ _ _ _ _ _ _ h => h)

/-- A mark is set. -/
theorem TS.mark (h : TS w m base) {r : Nat} {t : TN} (hr : m r = some t) (sw : Int) : TS (w.setCell ⟨r, 3, none⟩ (.int .i64 sw)) (upd m r { t with seen := sw }) base := by
  refine ⟨fun b u hb => ?_⟩
  by_cases e : b = r
  · subst e
    rw [upd_same] at hb
    injection hb with hb
    subst hb
    obtain ⟨h0, sv, h1, h2⟩ := h.at_ b t hr
    exact ⟨h0, sv, blk_set h1 (by simp), ownsRow_block h2 fun g hg => Below.heap_setCell _ _ _ _ (by rintro rfl; exact h.row hr h2 hg)⟩
  · rw [upd_other e] at hb
    obtain ⟨h0, sv, h1, h2⟩ := h.at_ b u hb
    exact ⟨h0, sv, (Below.heap_setCell _ _ _ _ e).trans h1, ownsRow_block h2 fun g hg => Below.heap_setCell _ _ _ _ (by rintro rfl; exact h.row hr h2 hg)⟩

/-- A link is set. -/
theorem TS.link (h : TS w m base) {r c : Nat} {t : TN} (hr : m r = some t) : TS (w.setCell ⟨r, 2, none⟩ (.pointer (some ⟨c, 0, none⟩))) (upd m r { t with is := some c }) base := by
  refine ⟨fun b u hb => ?_⟩
  by_cases e : b = r
  · subst e
    rw [upd_same] at hb
    injection hb with hb
    subst hb
    obtain ⟨h0, sv, h1, h2⟩ := h.at_ b t hr
    exact ⟨h0, sv, blk_set h1 (by simp [optV]), ownsRow_block h2 fun g hg => Below.heap_setCell _ _ _ _ (by rintro rfl; exact h.row hr h2 hg)⟩
  · rw [upd_other e] at hb
    obtain ⟨h0, sv, h1, h2⟩ := h.at_ b u hb
    exact ⟨h0, sv, (Below.heap_setCell _ _ _ _ e).trans h1, ownsRow_block h2 fun g hg => Below.heap_setCell _ _ _ _ (by rintro rfl; exact h.row hr h2 hg)⟩

set_option maxHeartbeats 1600000 in
set_option maxRecDepth 100000 in
theorem now_ref (h : TS w m base) {n x r : Nat} (hn : nowT m n x = some r) : Calls Tryz.prog 53 #[.pointer (some ⟨x, 0, none⟩)] w fun e w' => e = .returned (.pointer (some ⟨r, 0, none⟩)) ∧ w' = w := by
  have HN : Hid (nowT m n x = some r) := hn
  have HT : Hid (TS w m base) := h
  clear h hn
  go_enter Tryz.func53, Tryz.ntmps53
  go_wp2_with fail
  go_loopg [0] n (fun k v wr => ∃ y : Nat, v = .pointer (some ⟨y, 0, none⟩) ∧ nowT m k y = some r ∧ wr = w)
  case atStart => exact ⟨x, rfl, HN.out, rfl⟩
  case round =>
    obtain ⟨y, rfl, hy, rfl⟩ := hrel
    clear HN
    cases gk with
    | zero => cases hy
    | succ k =>
      rw [nowT] at hy
      obtain ⟨t, ht, hy⟩ := bindS hy
      obtain ⟨hlt, -, c2, -, -⟩ := HT.out.cells ht
      cases hi : t.is with
      | none =>
        rw [hi] at hy c2
        injection hy with hy
        subst hy
        simp only [optV] at c2
        go_wp2_with fail
        go_ret
        exact ⟨rfl, rfl⟩
      | some c =>
        rw [hi] at hy c2
        have HY : Hid (nowT m k c = some r) := hy
        simp only [optV] at c2
        clear hy
        go_wp2_with fail
        go_roundg k
        case measure => omega
        case rel => exact ⟨c, rfl, HY.out, rfl⟩

set_option maxHeartbeats 800000 in
set_option maxRecDepth 100000 in
theorem kind_ref (k : List UInt8) (sa : Option Addr) (sn sc : Nat) (w : World) : Calls Tryz.prog 44 #[.string (bs k), .slice sa sn sc] w fun e w' => e = .returned (.pointer (some ⟨w.heap.size, 0, none⟩)) ∧ w' = w.alloc (.cells #[.string (bs k), .slice sa sn sc, .pointer none, .int .i64 0] 114) := by
  go_enter Tryz.func44, Tryz.ntmps44
  go_wp2_with fail
  go_ret
  exact ⟨rfl, rfl⟩
end
end Go.Proofs.YtnbhnjokpcdnnaaGreatDoor

namespace Go.Proofs.YtnbhnjokpcdnnaaGreatDoor
open Go.RowKit

/-- The typer. -/
def Tyr (w : World) (y : Nat) (bad : Bool) (sw : Int) : Prop := w.heap[y]? = some (.cells #[.bool bad, .int .i64 sw] 80 (0, 0))

section
variable {w w' : World} {m m' : Nat → Option TN} {base y : Nat} {bad : Bool} {sw : Int}

theorem Tyr.cells (h : Tyr w y bad sw) : y < w.heap.size ∧ w.cell? ⟨y, 0, none⟩ = some (.bool bad) ∧ w.cell? ⟨y, 1, none⟩ = some (.int .i64 sw) ∧ ∀ i, w.frozen? ⟨y, i, none⟩ = false := by
  unfold Tyr at h
  refine ⟨(Array.getElem?_eq_some_iff.1 h).1, ?_, ?_, fun i => ?_⟩ <;> simp [World.cell?, World.frozen?, h]

theorem Tyr.no (h : Tyr w y bad sw) (hT : TS w m base) : m y = none := by
  cases hy : m y with
  | none => rfl
  | some t =>
    obtain ⟨-, sv, h1, -⟩ := hT.at_ y t hy
    unfold Tyr at h
    rw [h] at h1
    injection h1 with h1
    injection h1 with _ h1
    exact absurd h1 (by decide)

/-- The blocks of types. -/
def tyB (m : Nat → Option TN) (b : Nat) : Prop := ∃ t, m b = some t

theorem Tyr.fr (h : Tyr w y bad sw) (hT : TS w m base) (hF : Fr (tyB m) w w') : Tyr w' y bad sw := by
  unfold Tyr at h ⊢
  refine (hF.block y (Array.getElem?_eq_some_iff.1 h).1 ?_).trans h
  rintro ⟨t, ht⟩
  rw [Tyr.no (bad := bad) (sw := sw) h hT] at ht
  cases ht

theorem tyB_sm (h : Sm m m') {b : Nat} : tyB m b ↔ tyB m' b :=
  ⟨fun ⟨t, ht⟩ => by obtain ⟨t', h1, -⟩ := h.at ht; exact ⟨t', h1⟩, fun ⟨t, ht⟩ => by obtain ⟨t', h1, -⟩ := h.symm.at ht; exact ⟨t', h1⟩⟩

theorem ins_sm {sw : Int} {a : Nat} : ∀ (n : Nat) (m m' : Nat → Option TN) (b : Nat) (r : Bool), insT sw a n m b = some (m', r) → Sm m m'
  | 0, _, _, _, _, h => by cases h
  | n + 1, m, m', b, r, h => by
    have hL : ∀ (l : List Nat) (m m' : Nat → Option TN) (r : Bool), insL (insT sw a n) l m = some (m', r) → Sm m m' := by
      intro l
      induction l with
      | nil =>
        intro m m' r h
        rw [insL] at h
        injection h with h
        rw [← (Prod.mk.inj h).1]
        exact Sm.refl _
      | cons s l ih =>
        intro m m' r h
        rw [insL] at h
        obtain ⟨y, h1, h⟩ := bindS h
        have hy := ins_sm n m y.1 s y.2 h1
        split at h
        · injection h with h
          rw [h] at hy
          exact hy
        · exact hy.trans (ih y.1 m' r h)
    rw [insT] at h
    obtain ⟨r0, h1, h⟩ := bindS h
    split at h
    · injection h with h
      rw [← (Prod.mk.inj h).1]
      exact Sm.refl _
    · obtain ⟨t, h2, h⟩ := bindS h
      split at h
      · injection h with h
        rw [← (Prod.mk.inj h).1]
        exact Sm.refl _
      · exact (Sm.mark h2 sw).trans (hL _ _ _ _ h)

theorem Tryz.sizeTy : (Tryz.prog.info? 114).map (fun i => i.size) = some 4 := by kernel_rfl
theorem infoTy : ∃ i, Tryz.prog.info? 114 = some i ∧ i.size ≠ 0 := by
  obtain ⟨i, h1, h2⟩ := Option.map_eq_some_iff.1 Tryz.sizeTy
  exact ⟨i, h1, by omega⟩
theorem ty_same (a : Addr) (w : World) : (binOp .eql 50 (.pointer (some a)) (.pointer (some a))).run Tryz.prog w = .ok (.bool true) w := by
  obtain ⟨i, h1, _⟩ := infoTy
  exact run_eql_ptr_same w a Tryz.underlying50 h1
theorem ty_other (hT : TS w m base) {a b : Nat} {ta tb : TN} (ha : m a = some ta) (hb : m b = some tb) (hne : a ≠ b) : (binOp .eql 50 (.pointer (some ⟨a, 0, none⟩)) (.pointer (some ⟨b, 0, none⟩))).run Tryz.prog w = .ok (.bool false) w := by
  obtain ⟨i, h1, h2⟩ := infoTy
  obtain ⟨-, _, h3, -⟩ := hT.at_ a ta ha
  obtain ⟨-, _, h4, -⟩ := hT.at_ b tb hb
  exact run_eql_ptr_other w Tryz.underlying50 h1 h2 (fun e => hne (by injection e)) h3 h4

/-- What is wanted of 'inside'. -/
def InOk (sw : Int) (a y base n : Nat) : Prop := ∀ ⦃m m' : Nat → Option TN⦄ ⦃b : Nat⦄ ⦃r : Bool⦄ ⦃w : World⦄, insT sw a n m b = some (m', r) → TS w m base → (∃ bad, Tyr w y bad sw) → (∃ t, m a = some t) → (∀ x t, m x = some t → t.subs.length ≤ 2) →
  Calls Tryz.prog 75 #[.pointer (some ⟨y, 0, none⟩), .pointer (some ⟨a, 0, none⟩), .pointer (some ⟨b, 0, none⟩)] w fun e w' => e = .returned (.bool r) ∧ TS w' m' base ∧ Fr (tyB m) w w'

set_option maxHeartbeats 3200000 in
set_option maxRecDepth 100000 in
theorem inside_ref {a y base : Nat} : ∀ (n : Nat), InOk sw a y base n := by
  intro n
  induction n with
  | zero => intro m m' b r w h; cases h
  | succ n IH =>
    rintro m m' b r w h hT ⟨bad, hy⟩ ⟨tq, ha⟩ hsub
    rw [insT] at h
    obtain ⟨r0, h1, h⟩ := bindS h
    obtain ⟨t0, ht0, -⟩ := Rt.root h1
    have HT : Hid (TS w m base) := hT
    have HN : Hid (nowT m n b = some r0) := h1
    obtain ⟨hylt, y0, y1, -⟩ := hy.cells
    obtain ⟨hrlt, -, -, c3, f3⟩ := hT.cells ht0
    have f33 := f3 3
    clear f3
    by_cases har : a = r0
    · rw [if_pos har] at h
      injection h with h
      obtain ⟨rfl, rfl⟩ := Prod.mk.inj h
      subst har
      clear h h1 hT
      go_enter Tryz.func75, Tryz.ntmps75
      go_wp2_with fail
      refine (now_ref HT.out HN.out).mono ?_
      rintro e w1 ⟨rfl, rfl⟩
      go_wp2_with fail
      rw [ty_same]
      go_wp2_with fail
      go_ret
      exact ⟨rfl, HT.out, Fr.refl _ _⟩
    · rw [if_neg har, ht0] at h
      simp only [Option.bind_some] at h
      have HNE : Hid ((binOp .eql 50 (.pointer (some ⟨a, 0, none⟩)) (.pointer (some ⟨r0, 0, none⟩))).run Tryz.prog w = .ok (.bool false) w) := ty_other hT ha ht0 har
      by_cases hs : t0.seen = sw
      · rw [if_pos hs] at h
        injection h with h
        obtain ⟨rfl, rfl⟩ := Prod.mk.inj h
        rw [hs] at c3
        clear h h1 hT
        go_enter Tryz.func75, Tryz.ntmps75
        go_wp2_with fail
        refine (now_ref HT.out HN.out).mono ?_
        rintro e w1 ⟨rfl, rfl⟩
        go_wp2_with fail
        rw [HNE.out]
        go_wp2_with fail
        go_quiet (fail)
        go_wp2_with fail
        go_ret
        exact ⟨rfl, HT.out.grow ((Fr.refl _ _).drewN _), (Fr.refl _ _).drewN _⟩
      · rw [if_neg hs] at h
        have hd1 : (t0.seen == sw) = false := by simpa using hs
        have hd2 : decide (t0.seen = sw) = false := decide_eq_false hs
        have HL : Hid (insL (insT sw a n) t0.subs (upd m r0 { t0 with seen := sw }) = some (m', r)) := h
        have HT0 : Hid (m r0 = some t0) := ht0
        have HY : Hid (Tyr w y bad sw) := hy
        have HA : Hid (m a = some tq) := ha
        have HSUB : Hid (∀ x t, m x = some t → t.subs.length ≤ 2) := hsub
        have hl2 : t0.subs.length ≤ 2 := hsub r0 t0 ht0
        have hyr : ¬ r0 = y := by
          rintro rfl
          rw [hy.no hT] at ht0
          cases ht0
        clear h h1 hT hs ha hy hsub
        go_enter Tryz.func75, Tryz.ntmps75
        go_wp2_with fail
        refine (now_ref HT.out HN.out).mono ?_
        rintro e w1 ⟨rfl, rfl⟩
        go_wp2_with fail
        rw [HNE.out]
        go_wp2_with fail
        go_quiet (fail)
        go_wp2_with fail
        go_loopg [7] t0.subs.length (fun mm iv wr => ∃ (j : Nat) (mc : Nat → Option TN), iv = .int .i64 j ∧ j ≤ t0.subs.length ∧ mm = t0.subs.length - j ∧ insL (insT sw a n) (t0.subs.drop j) mc = some (m', r) ∧ TS wr mc base ∧ Sm m mc ∧ Fr (tyB m) w1 wr)
        case atStart => exact ⟨0, _, rfl, Nat.zero_le _, rfl, HL.out, (HT.out.grow ((Fr.refl _ _).drewN _)).mark HT0.out sw, Sm.mark HT0.out sw, ((Fr.refl _ _).drewN _).setCell (.inl ⟨t0, HT0.out⟩) _⟩
        case round =>
          obtain ⟨j, mc, rfl, hj, hm, hins, hTc, hSm, hF⟩ := hrel
          have HM : Hid (gk = t0.subs.length - j) := hm
          have HF : Hid (Fr (tyB m) w1 wr) := hF
          have HSM : Hid (Sm m mc) := hSm
          have HTC : Hid (TS wr mc base) := hTc
          have hyc := HY.out.fr HT.out hF
          obtain ⟨tc, hc1, -, hc3, -⟩ := hSm.at HT0.out
          obtain ⟨hr1, -, -, -, -⟩ := hTc.cells hc1
          obtain ⟨hy1, -, -, -⟩ := hyc.cells
          clear hm hF hrlt hylt c3 f33 y0 y1 ht0
          by_cases hlt : j < t0.subs.length
          · obtain ⟨g, gc, k1, hgl, kc⟩ := hTc.sub hc1 (i := j) (by rw [hc3]; exact hlt)
            rw [List.drop_eq_getElem_cons hlt, insL] at hins
            obtain ⟨x, hx, hins⟩ := bindS hins
            have hkc : ptrV (tc.subs[j]'(by rw [hc3]; exact hlt)) = .pointer (some ⟨t0.subs[j], 0, none⟩) := by simp [ptrV, hc3]
            rw [hkc] at kc
            rw [hc3] at k1
            have hca : ∃ t, mc a = some t := by obtain ⟨t, h1, -⟩ := hSm.at HA.out; exact ⟨t, h1⟩
            have hcs : ∀ x t, mc x = some t → t.subs.length ≤ 2 := fun x t hx => by
              obtain ⟨t', h1, -, h3, -⟩ := hSm.symm.at hx
              rw [← h3]
              exact HSUB.out x t' h1
            have HCALL : Hid (Calls Tryz.prog 75 #[.pointer (some ⟨y, 0, none⟩), .pointer (some ⟨a, 0, none⟩), .pointer (some ⟨t0.subs[j], 0, none⟩)] wr fun e w' => e = .returned (.bool x.2) ∧ TS w' x.1 base ∧ Fr (tyB mc) wr w') := IH (r := x.2) (m' := x.1) hx hTc ⟨bad, hyc⟩ hca hcs
            have HX : Hid (insT sw a n mc t0.subs[j] = some x) := hx
            have HI : Hid ((if x.2 = true then some x else insL (insT sw a n) (t0.subs.drop (j + 1)) x.1) = some (m', r)) := hins
            generalize t0.subs[j] = sj at *
            clear hins hx hTc hyc hca hcs hkc
            go_wp2_with fail
            refine HCALL.out.mono ?_
            rintro e w2 ⟨rfl, hT2, hF2⟩
            have HT2 : Hid (TS w2 x.1 base) := hT2
            have HF2 : Hid (Fr (tyB m) w1 w2) := HF.out.trans hF2 (fun b h => .inl ((tyB_sm HSM.out).2 h))
            have HSM2 : Hid (Sm m x.1) := HSM.out.trans (ins_sm n mc x.1 sj x.2 HX.out)
            clear hT2 hF2 HCALL kc k1
            cases hx2 : x.2
            · have HI2 : Hid (insL (insT sw a n) (t0.subs.drop (j + 1)) x.1 = some (m', r)) := by
                have := HI.out
                rw [hx2, if_neg (by decide)] at this
                exact this
              clear hx2 HI
              go_wp2_with fail
              go_roundg (t0.subs.length - (j + 1))
              case measure => rw [HM.out]; omega
              case rel => exact ⟨j + 1, x.1, by go_num, by omega, rfl, HI2.out, HT2.out, HSM2.out, HF2.out⟩
            · have HI2 : Hid (x.1 = m' ∧ r = true) := by
                have := HI.out
                rw [hx2, if_pos rfl] at this
                injection this with this
                rw [this] at hx2
                exact ⟨by rw [this], hx2⟩
              clear hx2 HI
              go_wp2_with fail
              go_ret
              rw [HI2.out.2, ← HI2.out.1]
              exact ⟨rfl, HT2.out, HF2.out⟩
          · obtain rfl : j = t0.subs.length := by omega
            obtain ⟨la, lc, k1⟩ := hTc.len hc1
            rw [hc3] at k1
            rw [List.drop_length, insL] at hins
            injection hins with hins
            obtain ⟨e1, e2⟩ := Prod.mk.inj hins
            have HE : Hid (mc = m' ∧ r = false) := ⟨e1, e2.symm⟩
            clear hins e1 e2 hTc hyc
            go_wp2_with fail
            go_ret
            rw [HE.out.2, ← HE.out.1]
            exact ⟨rfl, HTC.out, HF.out⟩
end
end Go.Proofs.YtnbhnjokpcdnnaaGreatDoor

namespace Go.Proofs.YtnbhnjokpcdnnaaGreatDoor
open Go.RowKit

/-- The same nodes, of the same kinds and parts. -/
def Sk (m m' : Nat → Option TN) : Prop := ∀ x, (m x).map (fun t => (t.k, t.subs)) = (m' x).map (fun t => (t.k, t.subs))

section
variable {m m' m'' : Nat → Option TN}
theorem Sk.refl (m : Nat → Option TN) : Sk m m := fun _ => rfl
theorem Sk.symm (h : Sk m m') : Sk m' m := fun x => (h x).symm
theorem Sk.trans (h : Sk m m') (h' : Sk m' m'') : Sk m m'' := fun x => (h x).trans (h' x)
theorem Sk.at (h : Sk m m') {x : Nat} {t : TN} (hx : m x = some t) : ∃ t', m' x = some t' ∧ t'.k = t.k ∧ t'.subs = t.subs := by
  have := h x
  rw [hx] at this
  cases hy : m' x with
  | none => rw [hy] at this; cases this
  | some t' =>
    rw [hy] at this
    simp at this
    exact ⟨t', rfl, this.1.symm, this.2.symm⟩
theorem Sm.sk (h : Sm m m') : Sk m m' := by
  intro x
  have := h x
  cases hx : m x with
  | none =>
    rw [hx] at this
    cases hy : m' x with
    | none => rfl
    | some t => rw [hy] at this; cases this
  | some t =>
    obtain ⟨t', h1, h2, h3, -⟩ := h.at hx
    rw [h1]
    simp [h2, h3]
theorem Sk.link {a : Nat} {t : TN} {c : Option Nat} (ha : m a = some t) : Sk m (upd m a { t with is := c }) := by
  intro x
  by_cases e : x = a
  · subst e; rw [ha, upd_same]; rfl
  · rw [upd_other e]
theorem tyB_sk (h : Sk m m') {b : Nat} : tyB m b ↔ tyB m' b :=
  ⟨fun ⟨t, ht⟩ => by obtain ⟨t', h1, -⟩ := h.at ht; exact ⟨t', h1⟩, fun ⟨t, ht⟩ => by obtain ⟨t', h1, -⟩ := h.symm.at ht; exact ⟨t', h1⟩⟩
end

theorem sameL_sk {n : Nat} (IH : ∀ (s s' : TyS) (x y : Nat), sameT n s x y = some s' → Sk s.m s'.m ∧ s.sw ≤ s'.sw) : ∀ (l l' : List Nat) (s s' : TyS), sameL (sameT n) l l' s = some s' → Sk s.m s'.m ∧ s.sw ≤ s'.sw
  | [], l', s, s', h => by rw [sameL] at h; injection h with h; rw [h]; exact ⟨Sk.refl _, Int.le_refl _⟩
  | a :: l, [], s, s', h => by cases h
  | a :: l, b :: l', s, s', h => by
    rw [sameL] at h
    obtain ⟨s1, h1, h⟩ := bindS h
    obtain ⟨e1, e2⟩ := IH s s1 a b h1
    obtain ⟨f1, f2⟩ := sameL_sk IH l l' s1 s' h
    exact ⟨e1.trans f1, by omega⟩

theorem same_sk : ∀ (n : Nat) (s s' : TyS) (x y : Nat), sameT n s x y = some s' → Sk s.m s'.m ∧ s.sw ≤ s'.sw
  | 0, _, _, _, _, h => by cases h
  | n + 1, s, s', x, y, h => by
    rw [sameT] at h
    obtain ⟨a, ha, h⟩ := bindS h
    obtain ⟨b, hb, h⟩ := bindS h
    split at h
    · injection h with h; rw [h]; exact ⟨Sk.refl _, Int.le_refl _⟩
    obtain ⟨ta, hta, h⟩ := bindS h
    obtain ⟨tb, htb, h⟩ := bindS h
    split at h
    · exact same_sk n s s' b a h
    split at h
    · obtain ⟨z, hz, h⟩ := bindS h
      have hsm := ins_sm n s.m z.1 b z.2 hz
      split at h
      · injection h with h
        subst h
        exact ⟨hsm.sk, by show s.sw ≤ s.sw + 1; omega⟩
      · obtain ⟨t, ht, h⟩ := bindS h
        injection h with h
        subst h
        exact ⟨hsm.sk.trans (Sk.link ht), by show s.sw ≤ s.sw + 1; omega⟩
    split at h
    · injection h with h
      subst h
      exact ⟨Sk.refl _, Int.le_refl _⟩
    · obtain ⟨s1, h1, h⟩ := bindS h
      obtain ⟨e1, e2⟩ := sameL_sk (same_sk n) _ _ _ _ h1
      split at h
      · injection h with h; subst h; exact ⟨e1, e2⟩
      · obtain ⟨t, ht, h⟩ := bindS h
        injection h with h
        subst h
        exact ⟨e1.trans (Sk.link ht), e2⟩

section
variable {w w' : World} {m : Nat → Option TN} {base y : Nat} {bad : Bool} {sw : Int}

/-- What is wanted of 'same'. -/
def SaOk (y base n : Nat) : Prop := ∀ ⦃s s' : TyS⦄ ⦃x z : Nat⦄ ⦃w : World⦄, sameT n s x z = some s' → TS w s.m base → Tyr w y s.bad s.sw → 0 ≤ s.sw → s'.sw ≤ 9223372036854775807 → (∀ x t, s.m x = some t → t.subs.length ≤ 2) →
  Calls Tryz.prog 50 #[.pointer (some ⟨y, 0, none⟩), .pointer (some ⟨x, 0, none⟩), .pointer (some ⟨z, 0, none⟩)] w fun e w' => e = .returned (.tuple #[]) ∧ TS w' s'.m base ∧ Tyr w' y s'.bad s'.sw ∧ Fr (fun b => tyB s.m b ∨ b = y) w w'

theorem Tyr.put (h : Tyr w y bad sw) (b' : Bool) : Tyr (w.setCell ⟨y, 0, none⟩ (.bool b')) y b' sw := blk_set h (by simp)
theorem Tyr.puts (h : Tyr w y bad sw) (s' : Int) : Tyr (w.setCell ⟨y, 1, none⟩ (.int .i64 s')) y bad s' := blk_set h (by simp)
/-- The typer is written, the types stay. -/
theorem TS.typ (h : TS w m base) (hy : Tyr w y bad sw) (i : Nat) (v : Value) : TS (w.setCell ⟨y, i, none⟩ v) m base := by
  refine h.fr (O := fun b => b = y) ((Fr.refl (fun b => b = y) w).setCell (p := ⟨y, i, none⟩) (.inl rfl) _) (fun b t hb e => ?_) (fun b t sv n cs hb hr g hg e => ?_)
  · subst e; rw [hy.no h] at hb; cases hb
  · subst e
    rcases hr.2 with ⟨rfl, _⟩ | ⟨g', cap, cur, rfl, _, hh, _⟩
    · cases hg
    · cases hg
      unfold Tyr at hy
      rw [hy] at hh
      injection hh with hh
      injection hh with _ hh
      exact absurd hh (by decide)
/-- A type is written, the typer stays. -/
theorem Tyr.typ (hy : Tyr w y bad sw) (h : TS w m base) {r : Nat} {t : TN} (hr : m r = some t) (i : Nat) (v : Value) : Tyr (w.setCell ⟨r, i, none⟩ v) y bad sw := by
  have hne : y ≠ r := by rintro rfl; rw [hy.no h] at hr; cases hr
  unfold Tyr at hy ⊢
  rw [Below.heap_setCell _ _ _ _ hne]
  exact hy

theorem Tyr.grow (h : Tyr w y bad sw) (hF : Fr (fun _ => False) w w') : Tyr w' y bad sw := by
  unfold Tyr at h ⊢
  exact (hF.block y (Array.getElem?_eq_some_iff.1 h).1 id).trans h

theorem sameL_len {R : TyS → Nat → Nat → Option TyS} : ∀ (l l' : List Nat) (s s' : TyS), sameL R l l' s = some s' → l.length ≤ l'.length
  | [], _, _, _, _ => by simp
  | _ :: _, [], _, _, h => by cases h
  | a :: l, b :: l', s, s', h => by
    rw [sameL] at h
    obtain ⟨s1, -, h⟩ := bindS h
    have := sameL_len l l' s1 s' h
    simp
    omega

set_option maxHeartbeats 3200000 in
set_option maxRecDepth 100000 in
theorem same_ref {y base : Nat} : ∀ (n : Nat), SaOk y base n := by
  intro n
  induction n with
  | zero => intro s s' x z w h; cases h
  | succ n IH =>
    intro s s' x z w h hT hy hsw hsw' hsub
    have hmono := (same_sk _ _ _ _ _ h).2
    rw [sameT] at h
    obtain ⟨a, ha, h⟩ := bindS h
    obtain ⟨b, hb, h⟩ := bindS h
    obtain ⟨ta, hta, -⟩ := Rt.root ha
    obtain ⟨tb, htb, -⟩ := Rt.root hb
    have HT : Hid (TS w s.m base) := hT
    have HNA : Hid (nowT s.m n x = some a) := ha
    have HNB : Hid (nowT s.m n z = some b) := hb
    have HY : Hid (Tyr w y s.bad s.sw) := hy
    obtain ⟨hylt, y0, y1, yf⟩ := hy.cells
    have yf0 := yf 0
    have yf1 := yf 1
    obtain ⟨halt, ca0, -, -, fa⟩ := hT.cells hta
    obtain ⟨hblt, cb0, -, -, -⟩ := hT.cells htb
    have fa2 := fa 2
    clear fa yf ha hb
    by_cases hbad : s.bad = true
    · rw [if_pos (.inl hbad)] at h
      injection h with h
      subst h
      rw [hbad] at y0
      clear hT hy
      go_enter Tryz.func50, Tryz.ntmps50
      go_wp2_with fail
      refine (now_ref HT.out HNA.out).mono ?_
      rintro e w1 ⟨rfl, rfl⟩
      go_wp2_with fail
      refine (now_ref HT.out HNB.out).mono ?_
      rintro e w1 ⟨rfl, rfl⟩
      go_wp2_with fail
      (first | go_end0 | ((try simp only [Exit.inBlock, Exit.then]); refine bodyPost_ret (results_none rfl _ _ _) rfl ?_))
      exact ⟨rfl, HT.out, HY.out, Fr.refl _ _⟩
    have hbadf : s.bad = false := by simpa using hbad
    rw [hbadf] at y0
    by_cases hab : a = b
    · rw [if_pos (.inr hab)] at h
      injection h with h
      subst h
      subst hab
      clear hT hy
      go_enter Tryz.func50, Tryz.ntmps50
      go_wp2_with fail
      refine (now_ref HT.out HNA.out).mono ?_
      rintro e w1 ⟨rfl, rfl⟩
      go_wp2_with fail
      refine (now_ref HT.out HNB.out).mono ?_
      rintro e w1 ⟨rfl, rfl⟩
      go_wp2_with fail
      rw [ty_same]
      go_wp2_with fail
      (first | go_end0 | ((try simp only [Exit.inBlock, Exit.then]); refine bodyPost_ret (results_none rfl _ _ _) rfl ?_))
      exact ⟨rfl, HT.out, HY.out, Fr.refl _ _⟩
    rw [if_neg (by rintro (h | h); exact hbad h; exact hab h), hta] at h
    simp only [Option.bind_some] at h
    rw [htb] at h
    simp only [Option.bind_some] at h
    have HNE : Hid ((binOp .eql 50 (.pointer (some ⟨a, 0, none⟩)) (.pointer (some ⟨b, 0, none⟩))).run Tryz.prog w = .ok (.bool false) w) := ty_other hT hta htb hab
    have HSUB : Hid (∀ x t, s.m x = some t → t.subs.length ≤ 2) := hsub
    have HTA : Hid (s.m a = some ta) := hta
    have HTB : Hid (s.m b = some tb) := htb
    by_cases hswap : ta.k ≠ [] ∧ tb.k = []
    · rw [if_pos hswap] at h
      have ka : (ta.k == []) = false := by simpa using hswap.1
      have kb : (tb.k == []) = true := by simpa using hswap.2
      have HC : Hid (Calls Tryz.prog 50 #[.pointer (some ⟨y, 0, none⟩), .pointer (some ⟨b, 0, none⟩), .pointer (some ⟨a, 0, none⟩)] w fun e w' => e = .returned (.tuple #[]) ∧ TS w' s'.m base ∧ Tyr w' y s'.bad s'.sw ∧ Fr (fun b => tyB s.m b ∨ b = y) w w') := IH h hT (by rw [hbadf] at hy ⊢; exact hy) hsw hsw' hsub
      generalize ta.k = kka at *
      generalize tb.k = kkb at *
      clear h hT hy hswap hsub hta htb
      go_enter Tryz.func50, Tryz.ntmps50
      go_wp2_with fail
      refine (now_ref HT.out HNA.out).mono ?_
      rintro e w1 ⟨rfl, rfl⟩
      go_wp2_with fail
      refine (now_ref HT.out HNB.out).mono ?_
      rintro e w1 ⟨rfl, rfl⟩
      go_wp2_with fail
      rw [HNE.out]
      go_wp2_with fail
      refine HC.out.mono ?_
      rintro e w2 ⟨rfl, h1, h2, h3⟩
      have HR : Hid _ := (⟨h1, h2, h3⟩ : _ ∧ _ ∧ _)
      clear h1 h2 h3
      go_wp2_with fail
      (first | go_end0 | ((try simp only [Exit.inBlock, Exit.then]); refine bodyPost_ret (results_none rfl _ _ _) rfl ?_))
      exact ⟨rfl, HR.out⟩
    rw [if_neg hswap] at h
    by_cases hvar : ta.k = []
    · rw [if_pos hvar] at h
      obtain ⟨x1, hx1, h⟩ := bindS h
      have ka : (ta.k == []) = true := by simpa using hvar
      have hswb : s.sw + 1 ≤ 9223372036854775807 := by
        split at h
        · injection h with h; rw [← h] at hsw'; exact hsw'
        · obtain ⟨t, -, h⟩ := bindS h
          injection h with h; rw [← h] at hsw'; exact hsw'
      have HX : Hid (insT (s.sw + 1) a n s.m b = some (x1.1, x1.2)) := hx1
      have HI : Hid ((if x1.2 = true then some (⟨x1.1, true, s.sw + 1⟩ : TyS) else (x1.1 a).bind fun t => some ⟨upd x1.1 a { t with is := some b }, false, s.sw + 1⟩) = some s') := h
      have HSM : Hid (Sm s.m x1.1) := ins_sm n s.m x1.1 b x1.2 hx1
      have hya : ¬ a = y := by rintro rfl; rw [hy.no hT] at hta; cases hta
      have hya' : ¬ y = a := fun e => hya e.symm
      generalize ta.k = kka at *
      generalize tb.k = kkb at *
      clear h hx1 hT hy hswap hsub hta htb hsw'
      go_enter Tryz.func50, Tryz.ntmps50
      go_wp2_with fail
      refine (now_ref HT.out HNA.out).mono ?_
      rintro e w1 ⟨rfl, rfl⟩
      go_wp2_with fail
      refine (now_ref HT.out HNB.out).mono ?_
      rintro e w1 ⟨rfl, rfl⟩
      go_wp2_with fail
      rw [HNE.out]
      go_wp2_with fail
      refine (inside_ref (sw := s.sw + 1) n HX.out (HT.out.typ HY.out _ _) ⟨s.bad, HY.out.puts _⟩ ⟨ta, HTA.out⟩ HSUB.out).mono ?_
      rintro e w2 ⟨rfl, hT2, hF2⟩
      have HT2 : Hid (TS w2 x1.1 base) := hT2
      have HY2 : Hid (Tyr w2 y s.bad (s.sw + 1)) := (HY.out.puts (s.sw + 1)).fr (HT.out.typ HY.out _ _) hF2
      have HF2 : Hid (Fr (fun b => tyB s.m b ∨ b = y) w1 w2) := ((Fr.refl (fun b => tyB s.m b ∨ b = y) w1).setCell (p := ⟨y, 1, none⟩) (.inl (.inr rfl)) _).trans hF2 (fun b h => .inl (.inl h))
      obtain ⟨t, ht, -, -, -⟩ := HSM.out.at HTA.out
      have HT3 : Hid (x1.1 a = some t) := ht
      obtain ⟨halt2, -, c2a, -, fa'⟩ := hT2.cells ht
      have fa22 := fa' 2
      obtain ⟨hy2, y02, y12, yf2⟩ := HY2.out.cells
      have yf02 := yf2 0
      clear hT2 hF2 ht fa' yf2
      cases hx2 : x1.2
      · have HE : Hid ((⟨upd x1.1 a { t with is := some b }, false, s.sw + 1⟩ : TyS) = s') := by
          have h1 := HI.out
          rw [hx2, if_neg (by decide), HT3.out] at h1
          injection h1
        clear hx2 HI
        go_wp2_with fail
        (first | go_end0 | ((try simp only [Exit.inBlock, Exit.then]); refine bodyPost_ret (results_none rfl _ _ _) rfl ?_))
        rw [← HE.out]
        refine ⟨rfl, (HT2.out.typ HY2.out _ _).link HT3.out, (HY2.out.put false).typ (HT2.out.typ HY2.out 0 (.bool false)) HT3.out _ _, ?_⟩
        exact (HF2.out.setCell (p := ⟨y, 0, none⟩) (.inl (.inr rfl)) _).setCell (p := ⟨a, 2, none⟩) (.inl (.inl ⟨ta, HTA.out⟩)) _
      · have HE : Hid ((⟨x1.1, true, s.sw + 1⟩ : TyS) = s') := by
          have h1 := HI.out
          rw [hx2, if_pos rfl] at h1
          injection h1
        clear hx2 HI
        go_wp2_with fail
        (first | go_end0 | ((try simp only [Exit.inBlock, Exit.then]); refine bodyPost_ret (results_none rfl _ _ _) rfl ?_))
        rw [← HE.out]
        exact ⟨rfl, HT2.out.typ HY2.out _ _, HY2.out.put true, HF2.out.setCell (p := ⟨y, 0, none⟩) (.inl (.inr rfl)) _⟩
    rw [if_neg hvar] at h
    have ka : (ta.k == []) = false := by simpa using hvar
    have kb : (tb.k == []) = false := by
      have : tb.k ≠ [] := fun h => hswap ⟨hvar, h⟩
      simpa using this
    by_cases hkk : ta.k ≠ tb.k
    · rw [if_pos hkk] at h
      injection h with h
      have kab : (ta.k == tb.k) = false := by simpa using hkk
      have HE : Hid (({ s with bad := true } : TyS) = s') := h
      generalize ta.k = kka at *
      generalize tb.k = kkb at *
      clear h hT hy hswap hsub hta htb hsw' hkk hvar
      go_enter Tryz.func50, Tryz.ntmps50
      go_wp2_with fail
      refine (now_ref HT.out HNA.out).mono ?_
      rintro e w1 ⟨rfl, rfl⟩
      go_wp2_with fail
      refine (now_ref HT.out HNB.out).mono ?_
      rintro e w1 ⟨rfl, rfl⟩
      go_wp2_with fail
      rw [HNE.out]
      go_wp2_with fail
      go_quiet (fail)
      go_wp2_with fail
      (first | go_end0 | ((try simp only [Exit.inBlock, Exit.then]); refine bodyPost_ret (results_none rfl _ _ _) rfl ?_))
      rw [← HE.out]
      have HTd : TS (w1.drewN _) s.m base := HT.out.grow ((Fr.refl _ _).drewN nq)
      have HYd : Tyr (w1.drewN nq) y s.bad s.sw := HY.out
      exact ⟨rfl, HTd.typ HYd _ _, HYd.put true, ((Fr.refl _ _).drewN _).setCell (p := ⟨y, 0, none⟩) (.inl (.inr rfl)) _⟩
    · rw [if_neg hkk] at h
      obtain ⟨s1, hl, h⟩ := bindS h
      have hkeq : ta.k = tb.k := Decidable.not_not.1 hkk
      have kab : (ta.k == tb.k) = true := by simpa using hkeq
      have hll := sameL_len _ _ _ _ hl
      have hs1 : s1.sw ≤ 9223372036854775807 := by
        split at h
        · injection h with h; rw [h]; exact hsw'
        · obtain ⟨t, -, h⟩ := bindS h
          injection h with h; rw [← h] at hsw'; exact hsw'
      have hl2 : ta.subs.length ≤ 2 := hsub a ta hta
      have HL : Hid (sameL (sameT n) ta.subs tb.subs s = some s1) := hl
      have HI : Hid ((if s1.bad = true then some s1 else (s1.m a).bind fun t => some { s1 with m := upd s1.m a { t with is := some b } }) = some s') := h
      have hya : ¬ a = y := by rintro rfl; rw [hy.no hT] at hta; cases hta
      have hya' : ¬ y = a := fun e => hya e.symm
      have HK1 : Hid (ta.k = ta.k) := rfl
      obtain ⟨kka, hkka⟩ : ∃ kka, kka = ta.k := ⟨_, rfl⟩
      obtain ⟨kkb, hkkb⟩ : ∃ kkb, kkb = tb.k := ⟨_, rfl⟩
      rw [← hkka] at ka kab ca0
      rw [← hkkb] at kb kab cb0
      clear h hl hT hy hswap hsub hta htb hsw' hkk hvar hkeq hkka hkkb
      go_enter Tryz.func50, Tryz.ntmps50
      go_wp2_with fail
      refine (now_ref HT.out HNA.out).mono ?_
      rintro e w1 ⟨rfl, rfl⟩
      go_wp2_with fail
      refine (now_ref HT.out HNB.out).mono ?_
      rintro e w1 ⟨rfl, rfl⟩
      go_wp2_with fail
      rw [HNE.out]
      go_wp2_with fail
      go_quiet (fail)
      go_wp2_with fail
      go_loopg [6] ta.subs.length (fun mm iv wr => ∃ (j : Nat) (sc : TyS), iv = .int .i64 j ∧ j ≤ ta.subs.length ∧ mm = ta.subs.length - j ∧ sameL (sameT n) (ta.subs.drop j) (tb.subs.drop j) sc = some s1 ∧ TS wr sc.m base ∧ Tyr wr y sc.bad sc.sw ∧ Sk s.m sc.m ∧ 0 ≤ sc.sw ∧ Fr (fun b => tyB s.m b ∨ b = y) w1 wr)
      case atStart => exact ⟨0, s, rfl, Nat.zero_le _, rfl, HL.out, HT.out.grow ((Fr.refl _ _).drewN _), HY.out.grow ((Fr.refl _ _).drewN _), Sk.refl _, hsw, (Fr.refl _ _).drewN _⟩
      case round =>
        obtain ⟨j, sc, rfl, hj, hm, hsl, hTc, hYc, hSk, hsc, hF⟩ := hrel
        have HM : Hid (gk = ta.subs.length - j) := hm
        have HF : Hid (Fr (fun b => tyB s.m b ∨ b = y) w1 wr) := hF
        have HSK : Hid (Sk s.m sc.m) := hSk
        have HTC : Hid (TS wr sc.m base) := hTc
        have HYC : Hid (Tyr wr y sc.bad sc.sw) := hYc
        obtain ⟨tac, ha1, -, ha3⟩ := hSk.at HTA.out
        obtain ⟨tbc, hb1, -, hb3⟩ := hSk.at HTB.out
        obtain ⟨har, -, -, -, faa⟩ := hTc.cells ha1
        obtain ⟨hbr, -, -, -, -⟩ := hTc.cells hb1
        obtain ⟨hyr, yc0, yc1, -⟩ := hYc.cells
        have fac := faa 2
        clear hm hF hylt y0 y1 yf0 yf1 halt hblt ca0 cb0 fa2 faa
        by_cases hlt : j < ta.subs.length
        · have hltb : j < tb.subs.length := by omega
          obtain ⟨ga, gac, ka1, hgal, kac⟩ := hTc.sub ha1 (i := j) (by rw [ha3]; exact hlt)
          obtain ⟨gb, gbc, kb1, hgbl, kbc⟩ := hTc.sub hb1 (i := j) (by rw [hb3]; exact hltb)
          rw [List.drop_eq_getElem_cons hlt, List.drop_eq_getElem_cons hltb, sameL] at hsl
          obtain ⟨s2, h2, hsl⟩ := bindS hsl
          have hka : ptrV (tac.subs[j]'(by rw [ha3]; exact hlt)) = .pointer (some ⟨ta.subs[j], 0, none⟩) := by simp [ptrV, ha3]
          have hkb : ptrV (tbc.subs[j]'(by rw [hb3]; exact hltb)) = .pointer (some ⟨tb.subs[j], 0, none⟩) := by simp [ptrV, hb3]
          rw [hka] at kac
          rw [hkb] at kbc
          rw [ha3] at ka1
          rw [hb3] at kb1
          have hs2 := (sameL_sk (same_sk n) _ _ _ _ hsl).2
          obtain ⟨hk2, hsw2⟩ := same_sk n _ _ _ _ h2
          have hcs : ∀ x t, sc.m x = some t → t.subs.length ≤ 2 := fun x t hx => by
            obtain ⟨t', h1, -, h3⟩ := hSk.symm.at hx
            rw [← h3]
            exact HSUB.out x t' h1
          have HCALL : Hid (∀ w', Fr (fun _ => False) wr w' → Calls Tryz.prog 50 #[.pointer (some ⟨y, 0, none⟩), .pointer (some ⟨ta.subs[j], 0, none⟩), .pointer (some ⟨tb.subs[j], 0, none⟩)] w' fun e w'' => e = .returned (.tuple #[]) ∧ TS w'' s2.m base ∧ Tyr w'' y s2.bad s2.sw ∧ Fr (fun b => tyB sc.m b ∨ b = y) w' w'') := fun w' hw' => IH h2 (hTc.grow hw') (hYc.grow hw') hsc (by omega) hcs
          have HSL : Hid (sameL (sameT n) (ta.subs.drop (j + 1)) (tb.subs.drop (j + 1)) s2 = some s1) := hsl
          have HK2 : Hid (Sk s.m s2.m) := hSk.trans hk2
          have hsc2 : 0 ≤ s2.sw := by omega
          have hIa : (j : Int) < (ta.subs.length : Int) := by omega
          have hIb : (j : Int) < (tb.subs.length : Int) := by omega
          obtain ⟨sa, hsa⟩ : ∃ sa, sa = ta.subs[j] := ⟨_, rfl⟩
          obtain ⟨sb, hsb⟩ : ∃ sb, sb = tb.subs[j] := ⟨_, rfl⟩
          rw [← hsa] at kac HCALL
          rw [← hsb] at kbc HCALL
          clear hsl h2 hTc hYc hcs hka hkb hSk hk2 hsw2 hs2 hsa hsb
          go_wp2_with fail
          go_region_law (rw [if_pos (by simp [Region.wanted])]; unfold Oper.wp; go_simp; go_at_call 50; refine (HCALL.out _ ((Fr.refl _ _).drew)).mono ?_; rintro e w2 ⟨rfl, hT2, hY2, hF2⟩; have HT2 : Hid (TS w2 s2.m base) := hT2; have HY2 : Hid (Tyr w2 y s2.bad s2.sw) := hY2; have HF2 : Hid (Fr (fun b => tyB s.m b ∨ b = y) w1 w2) := (HF.out.drew).trans hF2 (fun b h => by rcases h with h | h; exact .inl (.inl ((tyB_sk HSK.out).2 h)); exact .inl (.inr h)); clear hT2 hY2 hF2)
          all_goals
            go_wp2_with fail
            go_roundg (ta.subs.length - (j + 1))
            case measure => rw [HM.out]; omega
            case rel => exact ⟨j + 1, s2, by go_num, by omega, rfl, HSL.out, HT2.out, HY2.out, HK2.out, hsc2, HF2.out⟩
        · obtain rfl : j = ta.subs.length := by omega
          obtain ⟨la, lc, k1⟩ := hTc.len ha1
          rw [ha3] at k1
          rw [List.drop_length, sameL] at hsl
          injection hsl with hsl
          subst hsl
          have HA1 : Hid (sc.m a = some tac) := ha1
          obtain ⟨-, -, c2a, -, -⟩ := hTc.cells ha1
          cases hb' : sc.bad
          · have HE : Hid (({ sc with m := upd sc.m a { tac with is := some b } } : TyS) = s') := by
              have h1 := HI.out
              rw [if_neg (by rw [hb']; decide), HA1.out] at h1
              injection h1
            rw [hb'] at yc0
            have HYC2 : Hid (Tyr wr y sc.bad sc.sw) := HYC.out
            clear HI hTc hYc hSk ha1 hb1
            go_wp2_with fail
            (first | go_end0 | ((try simp only [Exit.inBlock, Exit.then]); refine bodyPost_ret (results_none rfl _ _ _) rfl ?_))
            rw [← HE.out]
            exact ⟨rfl, HTC.out.link HA1.out, HYC2.out.typ HTC.out HA1.out _ _, HF.out.setCell (p := ⟨a, 2, none⟩) (.inl (.inl ⟨ta, HTA.out⟩)) _⟩
          · have HE : Hid (sc = s') := by
              have h1 := HI.out
              rw [if_pos hb'] at h1
              injection h1
            rw [hb'] at yc0
            clear HI hTc hYc hSk ha1 hb1
            go_wp2_with fail
            (first | go_end0 | ((try simp only [Exit.inBlock, Exit.then]); refine bodyPost_ret (results_none rfl _ _ _) rfl ?_))
            rw [← HE.out]
            exact ⟨rfl, HTC.out, HYC.out, HF.out⟩
end
end Go.Proofs.YtnbhnjokpcdnnaaGreatDoor

namespace Go.Proofs.YtnbhnjokpcdnnaaGreatDoor
open Go.RowKit

section
variable {w w' : World} {m : Nat → Option TN} {base : Nat}

/-- A literal row of types. -/
theorem trow {g : Nat} (l : List Nat) (hl : l.length ≤ maxLen) (hb : base ≤ g) (h : w.heap[g]? = some (.cells (l.map ptrV).toArray 50 (0, 0))) : w.ownsRow base 50 1 (.slice (some ⟨g, 0, none⟩) l.length l.length) l.length (l.map ptrV) :=
  ⟨by simp, .inr ⟨g, l.length, _, rfl, hb, h, Nat.le_refl _, hl, by simp, by simpa using List.take_of_length_le (by simp)⟩⟩

/-- No type lies in a new block. -/
theorem TS.fresh (h : TS w m base) : m w.heap.size = none := by
  cases hm : m w.heap.size with
  | none => rfl
  | some t => have := h.lt hm; omega

/-- A new node lies in a new block. -/
theorem TS.new (h : TS w m base) (hb : base ≤ w.heap.size) {k : List UInt8} {subs : List Nat} {sv : Value} (hr : w.ownsRow base 50 1 sv subs.length (subs.map ptrV)) :
    TS (w.alloc (.cells #[.string (bs k), sv, .pointer none, .int .i64 0] 114)) (upd m w.heap.size ⟨k, subs, none, 0⟩) base := by
  refine ⟨fun x t hx => ?_⟩
  by_cases e : x = w.heap.size
  · subst e
    rw [upd_same] at hx
    injection hx with hx
    subst hx
    exact ⟨hb, sv, (MapKept.heap_alloc w _).1, ownsRow_block hr fun g hg => Below.heap_alloc _ _ _ (hr.lt g hg).2⟩
  · rw [upd_other e] at hx
    obtain ⟨h0, sv', h1, h2⟩ := h.at_ x t hx
    exact ⟨h0, sv', (Below.heap_alloc _ _ _ (h.lt hx)).trans h1, ownsRow_block h2 fun g hg => Below.heap_alloc _ _ _ (h2.lt g hg).2⟩
end
end Go.Proofs.YtnbhnjokpcdnnaaGreatDoor

namespace Go.Proofs.YtnbhnjokpcdnnaaGreatDoor
open Go.RowKit

section
variable {k nm ow : List UInt8} {z : Int} {subs pats : List Code} {b : Bool} {w : World} {X : Nat → Prop} {p : Value}

set_option maxHeartbeats 3200000 in
set_option maxRecDepth 100000 in
theorem isv_leaf (hk : k = [110, 117, 109] ∨ k = [98, 111, 111, 108] ∨ k = [110, 105, 108] ∨ k = [118, 97, 114] ∨ k = [102, 110]) (hN : Nd w X (nd k z nm ow subs pats) p) :
    Calls Tryz.prog 47 #[p] w fun e w' => e = .returned (.bool true) ∧ w' = w := by
  obtain ⟨bb, rfl, -, hblt⟩ := hN.ptr
  obtain ⟨c0, -, -⟩ := hN.cells
  clear hN
  cases q0 : (k == [110, 117, 109]) with
  | true =>
    clear hk
    go_enter Tryz.func47, Tryz.ntmps47
    go_wp2_with fail
    go_ret
    exact ⟨rfl, rfl⟩
  | false =>
    cases q1 : (k == [98, 111, 111, 108]) with
    | true =>
      clear hk
      go_enter Tryz.func47, Tryz.ntmps47
      go_wp2_with fail
      go_ret
      exact ⟨rfl, rfl⟩
    | false =>
      cases q2 : (k == [110, 105, 108]) with
      | true =>
        clear hk
        go_enter Tryz.func47, Tryz.ntmps47
        go_wp2_with fail
        go_ret
        exact ⟨rfl, rfl⟩
      | false =>
        cases q3 : (k == [118, 97, 114]) with
        | true =>
          clear hk
          go_enter Tryz.func47, Tryz.ntmps47
          go_wp2_with fail
          go_ret
          exact ⟨rfl, rfl⟩
        | false =>
          have q4 : (k == [102, 110]) = true := by
            have h0 := beq_eq_false_iff_ne.1 q0
            have h1 := beq_eq_false_iff_ne.1 q1
            have h2 := beq_eq_false_iff_ne.1 q2
            have h3 := beq_eq_false_iff_ne.1 q3
            rcases hk with h | h | h | h | h
            · exact absurd h h0
            · exact absurd h h1
            · exact absurd h h2
            · exact absurd h h3
            · subst h; decide
          clear hk
          go_enter Tryz.func47, Tryz.ntmps47
          go_wp2_with fail
          go_ret
          exact ⟨rfl, rfl⟩

set_option maxHeartbeats 3200000 in
set_option maxRecDepth 100000 in
theorem isv_none (hk : ¬ (k = [110, 117, 109] ∨ k = [98, 111, 111, 108] ∨ k = [110, 105, 108] ∨ k = [118, 97, 114] ∨ k = [102, 110])) (hk' : ¬ (k = [112, 97, 105, 114] ∨ k = [99, 111, 110, 115])) (hN : Nd w X (nd k z nm ow subs pats) p) :
    Calls Tryz.prog 47 #[p] w fun e w' => e = .returned (.bool false) ∧ w' = w := by
  obtain ⟨bb, rfl, -, hblt⟩ := hN.ptr
  obtain ⟨c0, -, -⟩ := hN.cells
  clear hN
  have q0 : (k == [110, 117, 109]) = false := by simpa using fun h => hk (.inl h)
  have q1 : (k == [98, 111, 111, 108]) = false := by simpa using fun h => hk (.inr (.inl h))
  have q2 : (k == [110, 105, 108]) = false := by simpa using fun h => hk (.inr (.inr (.inl h)))
  have q3 : (k == [118, 97, 114]) = false := by simpa using fun h => hk (.inr (.inr (.inr (.inl h))))
  have q4 : (k == [102, 110]) = false := by simpa using fun h => hk (.inr (.inr (.inr (.inr h))))
  have q5 : (k == [112, 97, 105, 114]) = false := by simpa using fun h => hk' (.inl h)
  have q6 : (k == [99, 111, 110, 115]) = false := by simpa using fun h => hk' (.inr h)
  clear hk hk'
  go_enter Tryz.func47, Tryz.ntmps47
  go_wp2_with fail
  go_ret
  exact ⟨rfl, rfl⟩

/-- What is wanted of 'isValue' at the parts. -/
def IvOk (n : Nat) : Prop := ∀ ⦃t : Code⦄ ⦃b : Bool⦄ ⦃m : Nat⦄ ⦃w : World⦄ ⦃X : Nat → Prop⦄ ⦃p : Value⦄, isV n t = some b → Sh m t → Nd w X t p → Calls Tryz.prog 47 #[p] w fun e w' => e = .returned (.bool b) ∧ w' = w

set_option maxHeartbeats 3200000 in
set_option maxRecDepth 100000 in
theorem isv_two {n m : Nat} (IH : IvOk n) (hk : k = [112, 97, 105, 114] ∨ k = [99, 111, 110, 115]) {a c : Code} {l : List Code} {x y : Bool} (hx : isV n a = some x) (hy : isV n c = some y) (ha : Sh m a) (hc : Sh m c) (hN : Nd w X (nd k z nm ow (a :: c :: l) pats) p) :
    Calls Tryz.prog 47 #[p] w fun e w' => e = .returned (.bool (x && y)) ∧ w' = w := by
  obtain ⟨bb, rfl, -, hblt⟩ := hN.ptr
  obtain ⟨c0, -, -⟩ := hN.cells
  have q0 : (k == [110, 117, 109]) = false := by rcases hk with rfl | rfl <;> decide
  have q1 : (k == [98, 111, 111, 108]) = false := by rcases hk with rfl | rfl <;> decide
  have q2 : (k == [110, 105, 108]) = false := by rcases hk with rfl | rfl <;> decide
  have q3 : (k == [118, 97, 114]) = false := by rcases hk with rfl | rfl <;> decide
  have q4 : (k == [102, 110]) = false := by rcases hk with rfl | rfl <;> decide
  obtain ⟨g, gc, u0, -, k4, hg, d0, n0⟩ := hN.sub (i := 0) (by simp)
  obtain ⟨g', gc', u1, -, k4', -, d1, n1⟩ := hN.sub (i := 1) (by simp)
  rw [k4] at k4'
  injection k4' with k4'
  injection k4' with e1 e2 e3
  injection e1 with e1
  injection e1 with e1
  subst e1
  simp only [List.length_cons] at k4
  have HA : Hid (Nd w X a u0) := n0
  have HC : Hid (Nd w X c u1) := n1
  clear n0 n1 hN
  cases q5 : (k == [112, 97, 105, 114]) with
  | true =>
    clear hk
    go_enter Tryz.func47, Tryz.ntmps47
    go_wp2_with fail
    refine (IH hx ha HA.out).mono ?_
    rintro e w1 ⟨rfl, rfl⟩
    go_wp2_with fail
    refine (IH hy hc HC.out).mono ?_
    rintro e w1 ⟨rfl, rfl⟩
    cases x
    · go_wp2_with fail
      go_ret
      exact ⟨rfl, rfl⟩
    · go_wp2_with fail
      go_ret
      exact ⟨rfl, rfl⟩
  | false =>
    have q6 : (k == [99, 111, 110, 115]) = true := by
      rcases hk with h | h
      · exact absurd h (beq_eq_false_iff_ne.1 q5)
      · subst h; decide
    clear hk
    go_enter Tryz.func47, Tryz.ntmps47
    go_wp2_with fail
    refine (IH hx ha HA.out).mono ?_
    rintro e w1 ⟨rfl, rfl⟩
    go_wp2_with fail
    refine (IH hy hc HC.out).mono ?_
    rintro e w1 ⟨rfl, rfl⟩
    cases x
    · go_wp2_with fail
      go_ret
      exact ⟨rfl, rfl⟩
    · go_wp2_with fail
      go_ret
      exact ⟨rfl, rfl⟩

theorem isValue_ref : ∀ n, IvOk n
  | 0 => fun _ _ _ _ _ _ h => by cases h
  | n + 1 => fun t b m w X p h hs hN => by
    cases m with
    | zero => exact hs.elim
    | succ m =>
      obtain ⟨k, z, nm, ow, subs, pats, rfl, h1, -, -⟩ := hs
      rw [isV, kindOf_nd, subsOf_nd] at h
      split at h
      · rename_i hk
        injection h with h
        subst h
        exact isv_leaf hk hN
      · rename_i hk
        split at h
        · rename_i hk'
          split at h
          · rename_i a c l
            obtain ⟨x, hx, h⟩ := bindS h
            obtain ⟨y, hy, h⟩ := bindS h
            injection h with h
            subst h
            exact isv_two (isValue_ref n) hk' hx hy (h1 a (by simp)) (h1 c (by simp)) hN
          · cases h
        · rename_i hk'
          injection h with h
          subst h
          exact isv_none hk hk' hN
end
end Go.Proofs.YtnbhnjokpcdnnaaGreatDoor

namespace Go.Proofs.YtnbhnjokpcdnnaaGreatDoor
open Go.RowKit

/-- How many parts a type has. -/
def szL (R : Nat → Option Nat) : List Nat → Option Nat
  | [] => some 0
  | a :: l => (R a).bind fun x => (szL R l).bind fun y => some (x + y)

def szT (m : Nat → Option TN) (g : Nat) : Nat → Nat → Option Nat
  | 0, _ => none
  | f + 1, x => (nowT m g x).bind fun r => (m r).bind fun t => (szL (szT m g f) t.subs).bind fun s => some (1 + s)

section
variable {w : World} {m : Nat → Option TN} {base g : Nat}

/-- What is wanted of 'count' at the parts. -/
def CtOk (m : Nat → Option TN) (g f : Nat) : Prop := ∀ ⦃x s : Nat⦄ ⦃w : World⦄ ⦃base : Nat⦄ ⦃most : Int⦄, szT m g f x = some s → TS w m base → 0 ≤ most → most ≤ 100000 → Calls Tryz.prog 52 #[.pointer (some ⟨x, 0, none⟩), .int .i64 most] w fun e w' => e = .returned (.int .i64 (min (s : Int) (most + 1))) ∧ w' = w

set_option maxHeartbeats 3200000 in
set_option maxRecDepth 100000 in
theorem count_step {f : Nat} (hs : ∀ x t, m x = some t → t.subs.length ≤ 2) (IH : CtOk m g f) : CtOk m g (f + 1) := by
  intro x s w base most h hT h0 h1
  rw [szT] at h
  obtain ⟨r, hr, h⟩ := bindS h
  obtain ⟨t, ht, h⟩ := bindS h
  obtain ⟨z, hz, h⟩ := bindS h
  injection h with h
  have HR : Hid (nowT m g x = some r) := hr
  have HT : Hid (TS w m base) := hT
  have HM : Hid (m r = some t) := ht
  have HZ : Hid (szL (szT m g f) t.subs = some z) := hz
  have HS : Hid (s = 1 + z) := h.symm
  have HL : Hid (t.subs.length ≤ 2) := hs r t ht
  clear h hr ht hz hT hs
  go_enter Tryz.func52, Tryz.ntmps52
  go_wp2_with fail
  refine (now_ref HT.out HR.out).mono ?_
  rintro e w1 ⟨rfl, rfl⟩
  go_wp2_with fail
  go_loopg [5, 6] t.subs.length (fun mm nv iv wr => ∃ (j : Nat) (a b : Nat), iv = .int .i64 j ∧ j ≤ t.subs.length ∧ mm = t.subs.length - j ∧ szL (szT m g f) (t.subs.drop j) = some b ∧ a + b = s ∧ nv = .int .i64 (min (a : Int) (most + 1)) ∧ wr = w1)
  case atStart => exact ⟨0, 1, z, rfl, Nat.zero_le _, rfl, HZ.out, HS.out.symm, by rw [show min ((1 : Nat) : Int) (most + 1) = 1 by omega], rfl⟩
  case round =>
    obtain ⟨j, a, b, rfl, hj, hm, hb, hab, hn, rfl⟩ := hrel
    have HMM : Hid (gk = t.subs.length - j) := hm
    have HTL : t.subs.length ≤ 2 := HL.out
    obtain ⟨hrlt, -, -, -, -⟩ := HT.out.cells HM.out
    clear hm
    by_cases hlt : j < t.subs.length
    · obtain ⟨gb, gc, k1, hgl, kc⟩ := HT.out.sub HM.out hlt
      rw [List.drop_eq_getElem_cons hlt, szL] at hb
      obtain ⟨x0, hx0, hb⟩ := bindS hb
      obtain ⟨y0, hy0, hb⟩ := bindS hb
      injection hb with hb
      have HX : Hid (szT m g f t.subs[j] = some x0) := hx0
      have HY : Hid (szL (szT m g f) (t.subs.drop (j + 1)) = some y0) := hy0
      have HAB : Hid (a + (x0 + y0) = s) := by rw [hb]; exact hab
      clear hx0 hy0 hb hab
      have kc' : wr.cell? ⟨gb, j, none⟩ = some (.pointer (some ⟨t.subs[j], 0, none⟩)) := kc
      clear kc
      generalize t.subs[j] = sj at *
      by_cases hma : most < a
      · obtain rfl := hn.trans (congrArg (Value.int .i64) (show min (a : Int) (most + 1) = most + 1 by omega))
        have HE : Hid (min (s : Int) (most + 1) = most + 1) := (show min (s : Int) (most + 1) = most + 1 by have := HAB.out; omega)
        clear hn
        go_wp2_with fail
        go_ret
        exact ⟨by rw [HE.out]; go_num, rfl⟩
      · obtain rfl := hn.trans (congrArg (Value.int .i64) (show min (a : Int) (most + 1) = a by omega))
        have HCALL : Hid (Calls Tryz.prog 52 #[.pointer (some ⟨sj, 0, none⟩), .int .i64 (most - a)] wr fun e w' => e = .returned (.int .i64 (min (x0 : Int) (most - a + 1))) ∧ w' = wr) := IH HX.out HT.out (by omega) (by omega)
        clear hn
        go_wp2_with fail
        refine HCALL.out.mono ?_
        rintro e w2 ⟨rfl, rfl⟩
        obtain ⟨c, hc⟩ : ∃ c : Nat, (c : Int) = min (x0 : Int) (most - a + 1) := ⟨(min (x0 : Int) (most - a + 1)).toNat, by omega⟩
        rw [← hc]
        have hc2 : c ≤ 100001 := by omega
        go_wp2_with fail
        go_roundg (t.subs.length - (j + 1))
        case measure => rw [HMM.out]; omega
        case rel => exact ⟨j + 1, a + x0, y0, by go_num, by omega, rfl, HY.out, by have := HAB.out; omega, by go_num, rfl⟩
    · obtain rfl : j = t.subs.length := by omega
      obtain ⟨la, lc, k1⟩ := HT.out.len HM.out
      rw [List.drop_length, szL] at hb
      injection hb with hb
      obtain rfl : a = s := by omega
      clear hb hab
      obtain ⟨c, hc⟩ : ∃ c : Nat, (c : Int) = min (a : Int) (most + 1) := ⟨(min (a : Int) (most + 1)).toNat, by omega⟩
      rw [← hc] at hn
      subst hn
      have HC : Hid ((c : Int) = min (a : Int) (most + 1)) := hc
      clear hc
      go_wp2_with fail
      go_ret
      exact ⟨by rw [← HC.out]; rfl, rfl⟩

theorem count_ref (hs : ∀ x t, m x = some t → t.subs.length ≤ 2) : ∀ f, CtOk m g f
  | 0 => fun _ _ _ _ _ h => by cases h
  | f + 1 => count_step hs (count_ref hs f)
end
end Go.Proofs.YtnbhnjokpcdnnaaGreatDoor

namespace Go.Proofs.YtnbhnjokpcdnnaaGreatDoor
open Go.RowKit

section
variable {w : World} {m : Nat → Option TN} {base g : Nat}

theorem szL_some {R : Nat → Option Nat} : ∀ l : List Nat, (∀ a ∈ l, ∃ s, R a = some s) → ∃ s, szL R l = some s
  | [], _ => ⟨0, rfl⟩
  | a :: l, h => by
    obtain ⟨x, hx⟩ := h a (by simp)
    obtain ⟨y, hy⟩ := szL_some l (fun b hb => h b (by simp [hb]))
    exact ⟨x + y, by rw [szL, hx, Option.bind_some, hy, Option.bind_some]⟩

/-- Every type of a sound store has so and so many parts. -/
theorem sz_some (hI : Inv m) : ∃ g, ∀ x t, m x = some t → ∃ f s, szT m g f x = some s := by
  obtain ⟨K, hK⟩ := hI.rt
  obtain ⟨rho, lam, -, -, hr⟩ := hI.rk
  refine ⟨K + 1, fun x t hx => ⟨rho x + 1, ?_⟩⟩
  have : ∀ (f x : Nat) (t : TN), m x = some t → rho x < f → ∃ s, szT m (K + 1) f x = some s := by
    intro f
    induction f with
    | zero => intro x t _ h; omega
    | succ f ih =>
      intro x t hx hf
      obtain ⟨r, h1⟩ := hK x t hx
      obtain ⟨u, h2, h3⟩ := Rt.root h1
      have h4 := rho_rt hr _ _ _ h1
      obtain ⟨s, hs⟩ := szL_some (R := szT m (K + 1) f) u.subs (fun a ha => by
        obtain ⟨v, hv⟩ := (hI.cl r u h2).1 a ha
        have := (hr r u h2).2 h3 a ha
        exact ih a v hv (by omega))
      exact ⟨1 + s, by rw [szT, h1, Option.bind_some, h2, Option.bind_some, hs, Option.bind_some]⟩
  exact this _ x t hx (Nat.lt_succ_self _)

theorem Inv.two (hI : Inv m) (x : Nat) (t : TN) (hx : m x = some t) : t.subs.length ≤ 2 := by
  rw [hI.ar x t hx]
  unfold arity
  split
  · omega
  · split <;> omega

set_option maxHeartbeats 1600000 in
set_option maxRecDepth 100000 in
theorem many_ref (hI : Inv m) (hT : TS w m base) {f x s : Nat} {most : Int} (h : szT m g f x = some s) (h0 : 0 ≤ most) (h1 : most ≤ 100000) : Calls Tryz.prog 25 #[.pointer (some ⟨x, 0, none⟩), .int .i64 most] w fun e w' => e = .returned (.bool (decide (most < s))) ∧ w' = w := by
  have HC : Hid (Calls Tryz.prog 52 #[.pointer (some ⟨x, 0, none⟩), .int .i64 most] w fun e w' => e = .returned (.int .i64 (min (s : Int) (most + 1))) ∧ w' = w) := count_ref hI.two f h hT h0 h1
  clear h hT hI
  go_enter Tryz.func25, Tryz.ntmps25
  go_wp2_with fail
  refine HC.out.mono ?_
  rintro e w1 ⟨rfl, rfl⟩
  by_cases hs : most < s
  · rw [show min (s : Int) (most + 1) = most + 1 by omega]
    go_wp2_with fail
    go_ret
    exact ⟨by simp [hs]; omega, rfl⟩
  · rw [show min (s : Int) (most + 1) = s by omega]
    go_wp2_with fail
    go_ret
    exact ⟨by simp [hs], rfl⟩
end
end Go.Proofs.YtnbhnjokpcdnnaaGreatDoor

namespace Go.Proofs.YtnbhnjokpcdnnaaGreatDoor
open Go.RowKit

/-- A name in sight: its type, or the value that it stands for, or its group; out: how many names of those before it are not in sight of that value. -/
structure EN where
  nm : List UInt8
  ty : Option Nat
  ex : Option Code
  gr : List Code
  out : Nat

/-- A group's functions, as they lie. -/
def GrAt (w : World) (base : Nat) (gr : List Code) (gv : Value) : Prop :=
  (gr = [] ∧ gv = .slice none 0 0) ∨ (gr ≠ [] ∧ ∃ gb gc, gv = .slice (some ⟨gb, 0, none⟩) gr.length gc ∧ gb < w.heap.size ∧ gb < base ∧ ∀ i (hi : i < gr.length), ∃ p, w.cell? ⟨gb, i, none⟩ = some p ∧ Nd w (fun b => base ≤ b) gr[i] p)

def ExAt (w : World) (base : Nat) : Option Code → Value → Prop
  | none, v => v = .pointer none
  | some t, v => Nd w (fun b => base ≤ b) t v

/-- The names in sight, as they lie: bp i is the pointer to the i-th. -/
structure Env (w : World) (base : Nat) (l : List EN) (bp : Nat → Value) : Prop where
  at_ : ∀ i e, l[i]? = some e → ∃ b ev gv ov, bp i = .pointer (some ⟨b, 0, none⟩) ∧ base ≤ b ∧ w.heap[b]? = some (.cells #[.string (bs e.nm), optV e.ty, ev, gv, ov, bp (i + 1)] 107 (0, 0)) ∧ ExAt w base e.ex ev ∧ GrAt w base e.gr gv ∧ ((e.ex ≠ none ∨ e.gr ≠ []) → i + 1 + e.out ≤ l.length ∧ ov = bp (i + 1 + e.out))
  nil_ : bp l.length = .pointer none

section
variable {w w' : World} {base : Nat} {l : List EN} {bp : Nat → Value}

theorem GrAt.fr {O : Nat → Prop} {gr : List Code} {gv : Value} (h : GrAt w base gr gv) (hF : Fr O w w') (hO : ∀ b, O b → base ≤ b) : GrAt w' base gr gv := by
  rcases h with h | ⟨h0, gb, gc, h1, h2, h3, h4⟩
  · exact .inl h
  · refine .inr ⟨h0, gb, gc, h1, Nat.lt_of_lt_of_le h2 hF.size, h3, fun i hi => ?_⟩
    obtain ⟨p, h5, h6⟩ := h4 i hi
    have hb := hF.block gb h2 (fun h => by have := hO gb h; omega)
    exact ⟨p, (World.cell?_of_block (a := ⟨gb, i, none⟩) hb).trans h5, h6.fr (hF.mono fun b h => .inl (hO b h))⟩

theorem ExAt.fr {O : Nat → Prop} {ex : Option Code} {v : Value} (h : ExAt w base ex v) (hF : Fr O w w') (hO : ∀ b, O b → base ≤ b) : ExAt w' base ex v := by
  cases ex with
  | none => exact h
  | some t => exact Nd.fr (show Nd w _ t v from h) (hF.mono fun b h => .inl (hO b h))

theorem Env.fr {O : Nat → Prop} (h : Env w base l bp) (hF : Fr O w w') (hO : ∀ b, O b → base ≤ b) (hB : ∀ b c, w.heap[b]? = some (.cells c 107 (0, 0)) → ¬ O b) : Env w' base l bp := by
  refine ⟨fun i e hi => ?_, h.nil_⟩
  obtain ⟨b, ev, gv, ov, h1, h2, h3, h4, h5, h6⟩ := h.at_ i e hi
  exact ⟨b, ev, gv, ov, h1, h2, (hF.block b (Array.getElem?_eq_some_iff.1 h3).1 (hB b _ h3)).trans h3, h4.fr hF hO, h5.fr hF hO, h6⟩

theorem Env.drop (h : Env w base l bp) {k : Nat} (hk : k ≤ l.length) : Env w base (l.drop k) (fun i => bp (i + k)) := by
  refine ⟨fun i e hi => ?_, by simpa [Nat.sub_add_cancel hk] using h.nil_⟩
  rw [List.getElem?_drop, Nat.add_comm] at hi
  obtain ⟨b, ev, gv, ov, h1, h2, h3, h4, h5, h6⟩ := h.at_ (i + k) e hi
  refine ⟨b, ev, gv, ov, h1, h2, ?_, h4, h5, fun hx => ?_⟩
  · rw [h3, show i + k + 1 = i + 1 + k by omega]
  · obtain ⟨g1, g2⟩ := h6 hx
    refine ⟨by rw [List.length_drop]; omega, ?_⟩
    rw [g2, show i + k + 1 + e.out = i + 1 + e.out + k by omega]

/-- One name more. -/
def bpush (v : Value) (bp : Nat → Value) : Nat → Value
  | 0 => v
  | i + 1 => bp i

theorem Env.push (h : Env w base l bp) (hb : base ≤ w.heap.size) {e : EN} {ev gv ov : Value} (h4 : ExAt w base e.ex ev) (h5 : GrAt w base e.gr gv) (h6 : (e.ex ≠ none ∨ e.gr ≠ []) → e.out ≤ l.length ∧ ov = bp e.out) :
    Env (w.alloc (.cells #[.string (bs e.nm), optV e.ty, ev, gv, ov, bp 0] 107)) base (e :: l) (bpush (.pointer (some ⟨w.heap.size, 0, none⟩)) bp) := by
  have hF : Fr (fun _ => False) w (w.alloc (.cells #[.string (bs e.nm), optV e.ty, ev, gv, ov, bp 0] 107)) := (Fr.refl _ w).alloc _
  have h' := h.fr hF (fun _ h => h.elim) (fun _ _ _ h => h)
  refine ⟨fun i u hi => ?_, h.nil_⟩
  cases i with
  | zero =>
    injection hi with hi
    subst hi
    refine ⟨w.heap.size, ev, gv, ov, rfl, hb, (MapKept.heap_alloc w _).1, h4.fr hF (fun _ h => h.elim), h5.fr hF (fun _ h => h.elim), fun hx => ?_⟩
    obtain ⟨g1, g2⟩ := h6 hx
    refine ⟨by simp; omega, ?_⟩
    rw [g2, Nat.zero_add, Nat.add_comm]
    rfl
  | succ i =>
    obtain ⟨b, ev', gv', ov', k1, k2, k3, k4, k5, k6⟩ := h'.at_ i u hi
    refine ⟨b, ev', gv', ov', k1, k2, k3, k4, k5, fun hx => ?_⟩
    obtain ⟨g1, g2⟩ := k6 hx
    refine ⟨by simp; omega, ?_⟩
    rw [g2, show i + 1 + 1 + u.out = (i + 1 + u.out) + 1 by omega]
    rfl
end
end Go.Proofs.YtnbhnjokpcdnnaaGreatDoor

/- What one step of the typing keeps. -/
namespace Go.Proofs.YtnbhnjokpcdnnaaGreatDoor
open Go.RowKit

/-- The types and the typer, as they lie. -/
structure Cy (y base : Nat) (w : World) (s : TyS) : Prop where
  ts : TS w s.m base
  ty : Tyr w y s.bad s.sw
  inv : Inv s.m
  dm : ∀ x t, s.m x = some t → t.seen ≤ s.sw
  sw0 : 0 ≤ s.sw
  hb : base ≤ y
  kl : ∀ x t, s.m x = some t → t.k.length ≤ 4

/-- What may yet be spent: marks and unlinked types. -/
def pot (w : World) (s : TyS) : Int := s.sw + (cnt s.m w.heap.size : Int) + (if s.bad = true then 0 else 1)

structure Stp (y base : Nat) (w : World) (s : TyS) (w' : World) (s' : TyS) (c : Nat) : Prop where
  cy : Cy y base w' s'
  fr : Fr (fun b => tyB s.m b ∨ b = y) w w'
  up : ∀ x, tyB s.m x → tyB s'.m x
  old : ∀ x, x < w.heap.size → tyB s'.m x → tyB s.m x
  pot : pot w' s' ≤ pot w s + c

def TyR (y base : Nat) (w : World) (s : TyS) (c : Nat) (e : Ending) (w' : World) : Prop := ∃ s' q, e = .returned (ptrV q) ∧ Stp y base w s w' s' c ∧ tyB s'.m q

section
variable {y base : Nat} {w w1 w2 : World} {s s1 s2 : TyS} {c c1 c2 : Nat}

theorem Cy.size (h : Cy y base w s) : base ≤ w.heap.size := by
  have := h.ty.cells.1
  have := h.hb
  omega

theorem Cy.big (h : Cy y base w s) {b : Nat} (hb : tyB s.m b ∨ b = y) : base ≤ b := by
  rcases hb with ⟨t, ht⟩ | rfl
  · exact (h.ts.at_ b t ht).1
  · exact h.hb

theorem Stp.trans (h0 : Cy y base w s) (h : Stp y base w s w1 s1 c1) (h' : Stp y base w1 s1 w2 s2 c2) : Stp y base w s w2 s2 (c1 + c2) := by
  refine ⟨h'.cy, h.fr.trans h'.fr ?_, fun x hx => h'.up x (h.up x hx), fun x hx h2 => h.old x hx (h'.old x (Nat.lt_of_lt_of_le hx h.fr.size) h2), ?_⟩
  · rintro b (hb | rfl)
    · by_cases e : b < w.heap.size
      · exact .inl (.inl (h.old b e hb))
      · exact .inr (by omega)
    · exact .inl (.inr rfl)
  · have h1 := h.pot
    have h2 := h'.pot
    push_cast
    omega

theorem Stp.le (h : Stp y base w s w1 s1 c1) (hc : c1 ≤ c) : Stp y base w s w1 s1 c := ⟨h.cy, h.fr, h.up, h.old, by have := h.pot; omega⟩

theorem cnt_grow (h : TS w s.m base) (hs : w.heap.size ≤ w1.heap.size) : cnt s.m w1.heap.size = cnt s.m w.heap.size := by
  rw [show w1.heap.size = w.heap.size + (w1.heap.size - w.heap.size) by omega]
  exact cnt_more (fun x t hx => h.lt hx) _

/-- New blocks that are no types'. -/
theorem Stp.grow (h : Cy y base w s) (hF : Fr (fun _ => False) w w1) : Stp y base w s w1 s 0 := by
  refine ⟨⟨h.ts.grow hF, h.ty.grow hF, h.inv, h.dm, h.sw0, h.hb, h.kl⟩, hF.mono fun _ h => h.elim, fun _ h => h, fun _ _ h => h, ?_⟩
  unfold Go.Proofs.YtnbhnjokpcdnnaaGreatDoor.pot
  rw [cnt_grow h.ts hF.size]
  omega

theorem Stp.low (h0 : Cy y base w s) (h : Stp y base w s w1 s1 c) {b : Nat} (hb : b < base) : w1.heap[b]? = w.heap[b]? :=
  h.fr.block b (Nat.lt_of_lt_of_le hb h0.size) (fun ho => by have := h0.big ho; omega)

theorem Stp.nd (h0 : Cy y base w s) (h : Stp y base w s w1 s1 c) {t : Code} {p : Value} (hN : Nd w (fun b => base ≤ b) t p) : Nd w1 (fun b => base ≤ b) t p :=
  hN.fr (h.fr.mono fun _ ho => .inl (h0.big ho))

theorem Stp.cell (h0 : Cy y base w s) (h : Stp y base w s w1 s1 c) {b i : Nat} {v : Value} (hb : b < base) (hv : w.cell? ⟨b, i, none⟩ = some v) : w1.cell? ⟨b, i, none⟩ = some v :=
  (World.cell?_of_block (a := ⟨b, i, none⟩) (h.low h0 hb)).trans hv

/-- A new type. -/
theorem Stp.node (h : Cy y base w s) {k : List UInt8} {subs : List Nat} {sv : Value} (hr : w.ownsRow base 50 1 sv subs.length (subs.map ptrV)) (hs : ∀ x ∈ subs, tyB s.m x) (ha : subs.length = arity k) (hk : k.length ≤ 4) :
    Stp y base w s (w.alloc (.cells #[.string (bs k), sv, .pointer none, .int .i64 0] 114)) { s with m := upd s.m w.heap.size ⟨k, subs, none, 0⟩ } 1 ∧ tyB (upd s.m w.heap.size ⟨k, subs, none, 0⟩) w.heap.size := by
  have hn := h.ts.fresh
  have hsz : (w.alloc (.cells #[.string (bs k), sv, .pointer none, .int .i64 0] 114)).heap.size = w.heap.size + 1 := by simp
  have hF : Fr (fun _ => False) w (w.alloc (.cells #[.string (bs k), sv, .pointer none, .int .i64 0] 114)) := (Fr.refl _ w).alloc _
  refine ⟨⟨⟨h.ts.new h.size hr, h.ty.grow hF, new_inv h.inv hn rfl hs ha, ?_, h.sw0, h.hb, ?_⟩, hF.mono fun _ h => h.elim, ?_, ?_, ?_⟩, ⟨_, upd_same⟩⟩
  · intro x t hx
    by_cases e : x = w.heap.size
    · subst e
      change upd s.m _ _ _ = _ at hx
      rw [upd_same] at hx
      injection hx with hx
      subst hx
      exact h.sw0
    · change upd s.m _ _ _ = _ at hx
      rw [upd_other e] at hx
      exact h.dm x t hx
  · intro x t hx
    by_cases e : x = w.heap.size
    · subst e
      change upd s.m _ _ _ = _ at hx
      rw [upd_same] at hx
      injection hx with hx
      subst hx
      exact hk
    · change upd s.m _ _ _ = _ at hx
      rw [upd_other e] at hx
      exact h.kl x t hx
  · rintro x ⟨t, ht⟩
    have e : x ≠ w.heap.size := by rintro rfl; rw [hn] at ht; cases ht
    exact ⟨t, by rw [← ht]; exact upd_other e⟩
  · rintro x hx ⟨t, ht⟩
    have e : x ≠ w.heap.size := by omega
    exact ⟨t, by rw [← ht]; exact (upd_other e).symm⟩
  · unfold Go.Proofs.YtnbhnjokpcdnnaaGreatDoor.pot
    rw [hsz, cnt_new hn rfl _ (Nat.lt_succ_self _)]
    have := cnt_more (m := s.m) (N := w.heap.size) (fun x t hx => h.ts.lt hx) 1
    rw [this]
    push_cast
    omega

theorem kind0 (h : Cy y base w s) {k : List UInt8} (ha : arity k = 0) (hk : k.length ≤ 4) : Calls Tryz.prog 44 #[.string (bs k), .slice none 0 0] w (TyR y base w s 1) := by
  refine (kind_ref k none 0 0 w).mono ?_
  rintro e w' ⟨rfl, rfl⟩
  obtain ⟨h1, h2⟩ := Stp.node h (k := k) (subs := []) (World.ownsRow_nil _ _ _ _) (by simp) (by rw [ha]; rfl) hk
  exact ⟨_, _, rfl, h1, h2⟩

theorem kind1 (h : Cy y base w s) {k : List UInt8} {a g : Nat} (hg : w.heap[g]? = some (.cells #[ptrV a] 50 (0, 0))) (hgb : base ≤ g) (hta : tyB s.m a) (ha : arity k = 1) (hk : k.length ≤ 4) : Calls Tryz.prog 44 #[.string (bs k), .slice (some ⟨g, 0, none⟩) 1 1] w (TyR y base w s 1) := by
  refine (kind_ref k (some ⟨g, 0, none⟩) 1 1 w).mono ?_
  rintro e w' ⟨rfl, rfl⟩
  obtain ⟨h1, h2⟩ := Stp.node h (k := k) (subs := [a]) (trow [a] (by unfold maxLen; simp) hgb hg) (by simpa using hta) (by rw [ha]; rfl) hk
  exact ⟨_, _, rfl, h1, h2⟩

theorem kind2 (h : Cy y base w s) {k : List UInt8} {a b g : Nat} (hg : w.heap[g]? = some (.cells #[ptrV a, ptrV b] 50 (0, 0))) (hgb : base ≤ g) (hta : tyB s.m a) (htb : tyB s.m b) (ha : arity k = 2) (hk : k.length ≤ 4) : Calls Tryz.prog 44 #[.string (bs k), .slice (some ⟨g, 0, none⟩) 2 2] w (TyR y base w s 1) := by
  refine (kind_ref k (some ⟨g, 0, none⟩) 2 2 w).mono ?_
  rintro e w' ⟨rfl, rfl⟩
  obtain ⟨h1, h2⟩ := Stp.node h (k := k) (subs := [a, b]) (trow [a, b] (by unfold maxLen; simp) hgb hg) (by simp [hta, htb]) (by rw [ha]; rfl) hk
  exact ⟨_, _, rfl, h1, h2⟩

/-- Two types are made one. -/
theorem same_stp (h : Cy y base w s) {x z : Nat} (hx : tyB s.m x) (hz : tyB s.m z) (hp : pot w s ≤ 9223372036854775807) :
    Calls Tryz.prog 50 #[ptrV y, ptrV x, ptrV z] w fun e w' => e = .returned (.tuple #[]) ∧ ∃ s', Stp y base w s w' s' 0 := by
  obtain ⟨tx, hx⟩ := hx
  obtain ⟨tz, hz⟩ := hz
  obtain ⟨rho, lam, K, h1, h2⟩ := h.inv.rk
  obtain ⟨n, s', k1, k2, k3, k4, k5, k6, k7, -⟩ := same_ok (N := w.heap.size) (cnt s.m w.heap.size) (rho x + 1) s x z tx tz h.inv (fun a t ha => ⟨h.ts.lt ha, h.dm a t ha⟩) (Nat.le_refl _) ⟨rho, lam, K, h1, h2, Nat.lt_succ_self _⟩ hx hz
  have hsk := (same_sk n s s' x z k1).1
  have hpot : s'.sw + (cnt s'.m w.heap.size : Int) + (if s'.bad = true then 0 else 1) ≤ pot w s := by
    unfold Go.Proofs.YtnbhnjokpcdnnaaGreatDoor.pot
    cases hb : s.bad with
    | true =>
      have := k6 hb
      subst this
      rw [hb]
      exact Int.le_refl _
    | false =>
      rw [hb] at k7
      cases hb' : s'.bad with
      | true =>
        rw [hb'] at k7
        simp at k7 ⊢
        omega
      | false =>
        rw [hb'] at k7
        simp at k7 ⊢
        omega
  refine (same_ref n k1 h.ts h.ty h.sw0 ?_ h.inv.two).mono ?_
  · have : (0 : Int) ≤ (if s'.bad = true then 0 else 1) := by split <;> omega
    omega
  · rintro e w' ⟨rfl, g1, g2, g3⟩
    refine ⟨rfl, s', ⟨g1, g2, k2, fun a t ha => (k4 a t ha).2, Int.le_trans h.sw0 k5, h.hb, ?_⟩, g3, fun a ha => (tyB_sk hsk).1 ha, fun a _ ha => (tyB_sk hsk).2 ha, ?_⟩
    · intro a t ha
      obtain ⟨t', q1, q2, -⟩ := hsk.symm.at ha
      rw [← q2]
      exact h.kl a t' q1
    · have hc : cnt s'.m w'.heap.size = cnt s'.m w.heap.size := by
        rw [show w'.heap.size = w.heap.size + (w'.heap.size - w.heap.size) by have := g3.size; omega]
        exact cnt_more (fun a t ha => (k4 a t ha).1) _
      show s'.sw + (cnt s'.m w'.heap.size : Int) + _ ≤ _
      rw [hc]
      omega

/-- Names with their types. -/
structure EnT (w : World) (base : Nat) (l : List EN) (bp : Nat → Value) (s : TyS) : Prop where
  env : Env w base l bp
  ty : ∀ e ∈ l, ∀ b, e.ty = some b → tyB s.m b

theorem EnT.stp {l : List EN} {bp : Nat → Value} (h : EnT w base l bp s) (h0 : Cy y base w s) (h1 : Stp y base w s w1 s1 c) : EnT w1 base l bp s1 := by
  refine ⟨h.env.fr h1.fr (fun _ ho => h0.big ho) ?_, fun e he b hb => h1.up b (h.ty e he b hb)⟩
  rintro b cs hb (⟨t, ht⟩ | rfl)
  · obtain ⟨-, sv, h2, -⟩ := h0.ts.at_ b t ht
    rw [h2] at hb
    injection hb with hb
    injection hb with _ hb
    exact absurd hb (by decide)
  · have h2 := h0.ty
    unfold Tyr at h2
    rw [h2] at hb
    injection hb with hb
    injection hb with _ hb
    exact absurd hb (by decide)

theorem Env.ptr {l : List EN} {bp : Nat → Value} (h : Env w base l bp) : ∃ o, bp 0 = .pointer o := by
  cases l with
  | nil => exact ⟨none, h.nil_⟩
  | cons e l =>
    obtain ⟨b, ev, gv, ov, h1, -⟩ := h.at_ 0 e rfl
    exact ⟨_, h1⟩

/-- One name more, in a block of its own. -/
theorem EnT.cons {l : List EN} {bp : Nat → Value} (h : EnT w base l bp s) {e : EN} {ev gv ov : Value} {b : Nat} (hb : base ≤ b) (h3 : w.heap[b]? = some (.cells #[.string (bs e.nm), optV e.ty, ev, gv, ov, bp 0] 107 (0, 0))) (h4 : ExAt w base e.ex ev) (h5 : GrAt w base e.gr gv) (h6 : (e.ex ≠ none ∨ e.gr ≠ []) → e.out ≤ l.length ∧ ov = bp e.out) (h7 : ∀ b, e.ty = some b → tyB s.m b) :
    EnT w base (e :: l) (bpush (.pointer (some ⟨b, 0, none⟩)) bp) s := by
  refine ⟨⟨fun i u hi => ?_, h.env.nil_⟩, fun u hu b' hb' => ?_⟩
  · cases i with
    | zero =>
      injection hi with hi
      subst hi
      refine ⟨b, ev, gv, ov, rfl, hb, h3, h4, h5, fun hx => ?_⟩
      obtain ⟨g1, g2⟩ := h6 hx
      refine ⟨by simp; omega, ?_⟩
      rw [g2, Nat.zero_add, Nat.add_comm]
      rfl
    | succ i =>
      obtain ⟨b', ev', gv', ov', k1, k2, k3, k4, k5, k6⟩ := h.env.at_ i u hi
      refine ⟨b', ev', gv', ov', k1, k2, k3, k4, k5, fun hx => ?_⟩
      obtain ⟨g1, g2⟩ := k6 hx
      refine ⟨by simp; omega, ?_⟩
      rw [g2, show i + 1 + 1 + u.out = (i + 1 + u.out) + 1 by omega]
      rfl
  · rcases List.mem_cons.1 hu with rfl | hu
    · exact h7 b' hb'
    · exact h.ty u hu b' hb'

theorem EnT.drop {l : List EN} {bp : Nat → Value} (h : EnT w base l bp s) {k : Nat} (hk : k ≤ l.length) : EnT w base (l.drop k) (fun i => bp (i + k)) s :=
  ⟨h.env.drop hk, fun e he => h.ty e (List.mem_of_mem_drop he)⟩
end
end Go.Proofs.YtnbhnjokpcdnnaaGreatDoor

/- What the names in sight cost; the contract of the typing. -/
namespace Go.Proofs.YtnbhnjokpcdnnaaGreatDoor
open Go.RowKit

/-- The names of ns are in sight in l; typing one of them anew makes at most M types, and goes down to at most d. -/
def EO : Nat → Nat → Nat → List EN → List (List UInt8) → Prop
  | 0, _, _, _, _ => False
  | f + 1, d, M, l, ns => (∀ x ∈ ns, ∃ e ∈ l, e.nm = x) ∧ ∀ i e, l[i]? = some e →
      (e.ex = none ∧ e.gr = [] ∧ e.ty ≠ none) ∨
      (∃ a ns' d' M' ua va N, e.ex = some a ∧ e.gr = [] ∧ EO f d' M' (l.drop (i + 1 + e.out)) ns' ∧ Cst N ns' a ua va ∧ d' + wt a ≤ d ∧ M' * ua + va ≤ M) ∨
      (∃ ns' d' M' U V N, e.ex = none ∧ e.gr ≠ [] ∧ EO f d' M' (l.drop (i + 1 + e.out)) ns' ∧ CtG (Cst N) (e.gr.map ownOf ++ ns') e.gr U V ∧ d' + wts e.gr ≤ d ∧ M' * U + V ≤ M)

theorem EO.up : ∀ (f d M d' M' : Nat) (l : List EN) (ns ns' : List (List UInt8)), EO f d M l ns → d ≤ d' → M ≤ M' → (∀ x ∈ ns', x ∈ ns) → EO (f + 1) d' M' l ns'
  | 0, _, _, _, _, _, _, _, h, _, _, _ => h.elim
  | f + 1, d, M, d', M', l, ns, ns', ⟨h1, h2⟩, hd, hM, hn => by
    refine ⟨fun x hx => h1 x (hn x hx), fun i e hi => ?_⟩
    rcases h2 i e hi with h | ⟨a, n1, d1, M1, ua, va, N, g1, g2, g3, g4, g5, g6⟩ | ⟨n1, d1, M1, U, V, N, g1, g2, g3, g4, g5, g6⟩
    · exact .inl h
    · exact .inr (.inl ⟨a, n1, d1, M1, ua, va, N, g1, g2, EO.up f _ _ _ _ _ _ _ g3 (Nat.le_refl _) (Nat.le_refl _) (fun _ h => h), g4, by omega, by omega⟩)
    · exact .inr (.inr ⟨n1, d1, M1, U, V, N, g1, g2, EO.up f _ _ _ _ _ _ _ g3 (Nat.le_refl _) (Nat.le_refl _) (fun _ h => h), g4, by omega, by omega⟩)

theorem EO.le {f f' d M d' M' : Nat} {l : List EN} {ns ns' : List (List UInt8)} (h : EO f d M l ns) (hf : f < f') (hd : d ≤ d') (hM : M ≤ M') (hn : ∀ x ∈ ns', x ∈ ns) : EO f' d' M' l ns' := by
  induction hf with
  | refl => exact EO.up f d M d' M' l ns ns' h hd hM hn
  | step _ ih => exact EO.up _ _ _ _ _ _ _ _ ih (Nat.le_refl _) (Nat.le_refl _) (fun _ h => h)

/-- One name more: its entry, as the first. -/
theorem EO.push {f d M : Nat} {l : List EN} {ns : List (List UInt8)} (h : EO f d M l ns) {e : EN}
    (he : (e.ex = none ∧ e.gr = [] ∧ e.ty ≠ none) ∨
      (∃ a ns' d' M' ua va N, e.ex = some a ∧ e.gr = [] ∧ EO f d' M' (l.drop e.out) ns' ∧ Cst N ns' a ua va ∧ d' + wt a ≤ d ∧ M' * ua + va ≤ M) ∨
      (∃ ns' d' M' U V N, e.ex = none ∧ e.gr ≠ [] ∧ EO f d' M' (l.drop e.out) ns' ∧ CtG (Cst N) (e.gr.map ownOf ++ ns') e.gr U V ∧ d' + wts e.gr ≤ d ∧ M' * U + V ≤ M)) : EO (f + 1) d M (e :: l) (e.nm :: ns) := by
  cases f with
  | zero => exact h.elim
  | succ f =>
    obtain ⟨h1, h2⟩ := h
    refine ⟨fun x hx => ?_, fun i u hi => ?_⟩
    · rcases List.mem_cons.1 hx with rfl | hx
      · exact ⟨e, List.mem_cons_self, rfl⟩
      · obtain ⟨u, hu, hn⟩ := h1 x hx
        exact ⟨u, List.mem_cons_of_mem _ hu, hn⟩
    · cases i with
      | zero =>
        injection hi with hi
        subst hi
        rw [show (e :: l).drop (0 + 1 + e.out) = l.drop e.out by rw [Nat.zero_add, Nat.add_comm]; rfl]
        exact he
      | succ i =>
        have hi' : l[i]? = some u := hi
        rw [show (e :: l).drop (i + 1 + 1 + u.out) = l.drop (i + 1 + u.out) by rw [show i + 1 + 1 + u.out = (i + 1 + u.out) + 1 by omega]; rfl]
        rcases h2 i u hi' with h | ⟨a, n1, d1, M1, ua, va, N, g1, g2, g3, g4, g5, g6⟩ | ⟨n1, d1, M1, U, V, N, g1, g2, g3, g4, g5, g6⟩
        · exact .inl h
        · exact .inr (.inl ⟨a, n1, d1, M1, ua, va, N, g1, g2, g3.le (Nat.lt_succ_self _) (Nat.le_refl _) (Nat.le_refl _) (fun _ h => h), g4, g5, g6⟩)
        · exact .inr (.inr ⟨n1, d1, M1, U, V, N, g1, g2, g3.le (Nat.lt_succ_self _) (Nat.le_refl _) (Nat.le_refl _) (fun _ h => h), g4, g5, g6⟩)

theorem EO.plain {f d M : Nat} {l : List EN} {ns : List (List UInt8)} (h : EO f d M l ns) (x : List UInt8) (b : Nat) : EO (f + 1) d M (⟨x, some b, none, [], 0⟩ :: l) (x :: ns) :=
  EO.push (e := ⟨x, some b, none, [], 0⟩) h (.inl ⟨rfl, rfl, by simp⟩)

theorem EO.val {f d M N ua va : Nat} {l : List EN} {ns : List (List UInt8)} {a : Code} (h : EO f d M l ns) (hc : Cst N ns a ua va) (x : List UInt8) (ty : Option Nat) : EO (f + 2) (d + wt a) (M * ua + va) (⟨x, ty, some a, [], 0⟩ :: l) (x :: ns) := by
  have hp := hc.pos
  have h1 : M * 1 ≤ M * ua := Nat.mul_le_mul_left _ hp.1
  refine EO.push (e := ⟨x, ty, some a, [], 0⟩) (h.le (f' := f + 1) (Nat.lt_succ_self _) (by omega) (by omega) (fun _ h => h)) (.inr (.inl ⟨a, ns, d, M, ua, va, N, rfl, rfl, ?_, hc, Nat.le_refl _, Nat.le_refl _⟩))
  exact h.le (Nat.lt_succ_self _) (Nat.le_refl _) (Nat.le_refl _) (fun _ h => h)

theorem EO.nil : EO 1 0 0 [] [] := ⟨(fun _ h => by cases h), (fun i e h => by simp at h)⟩

theorem Pt.sh : ∀ (n : Nat) (q : Code) (xs : List (List UInt8)) (c : Nat), Pt n q xs c → Sh n q
  | 0, _, _, _, h => h.elim
  | n + 1, q, xs, c, ⟨_, h⟩ => by
    rcases h with ⟨x, rfl, rfl⟩ | ⟨k, z, hk, rfl, rfl, -⟩ | ⟨k, a, b, xa, ca, xb, cb, hk, rfl, h3, h4, rfl, -⟩
    · exact ⟨_, _, _, _, _, _, rfl, by simp, by simp, fun h => absurd h (by decide)⟩
    · exact ⟨_, _, _, _, _, _, rfl, by simp, by simp, fun h => by subst h; rcases hk with h | h | h | h <;> exact absurd h (by decide)⟩
    · refine ⟨_, _, _, _, _, _, rfl, ?_, by simp, fun h => by simp⟩
      intro c hc; simp at hc
      rcases hc with rfl | rfl
      · exact Pt.sh n _ _ _ h3
      · exact Pt.sh n _ _ _ h4

theorem Sh.up : ∀ (n : Nat) (t : Code), Sh n t → Sh (n + 1) t
  | 0, _, h => h.elim
  | n + 1, t, ⟨k, m, nm, ow, subs, pats, h1, h2, h3, h4⟩ => ⟨k, m, nm, ow, subs, pats, h1, fun a ha => Sh.up n a (h2 a ha), fun a ha => Sh.up n a (h3 a ha), h4⟩

theorem Sh.le {n k : Nat} (h : n ≤ k) {t : Code} (hs : Sh n t) : Sh k t := by
  induction h with
  | refl => exact hs
  | step _ ih => exact Sh.up _ _ ih

theorem Cst.sh : ∀ (n : Nat) (ns : List (List UInt8)) (t : Code) (u v : Nat), Cst n ns t u v → Sh (2 * n) t
  | 0, _, _, _, _, h => h.elim
  | n + 1, ns, t, u, v, ⟨h0, h0', h⟩ => by
    have ih := fun ns t u v h => Sh.up _ _ (Cst.sh n ns t u v h)
    rw [show 2 * (n + 1) = 2 * n + 1 + 1 by omega]
    rcases h with ⟨k, z, hk, rfl, -⟩ | ⟨x, rfl, -⟩ | ⟨x, b, ub, vb, rfl, h2, h3, h4⟩ | ⟨x, a, b, ua, va, ub, vb, c, rfl, h2, h3, h4, h5, h6⟩ | ⟨ds, b, U, V, ub, vb, rfl, h2, h3, h4, h5, h6, h7⟩ | ⟨k, a, b, ua, va, ub, vb, c, h1, rfl, h3, h4, h5, h6⟩ | ⟨k, a, ua, va, h1, rfl, h3, h4, h5⟩ | ⟨a, b, d, ua, va, ub, vb, ud, vd, rfl, h2, h3, h4, h5, h6⟩ | ⟨x, a, b, ua, va, ub, vb, rfl, h2, h3, h4, h5⟩ | ⟨a, bs, qs, ua, va, U, V, rfl, h2, h3, h4, h5⟩
    · exact ⟨_, _, _, _, _, _, rfl, by simp, by simp, fun h => by subst h; rcases hk with h | h | h | h <;> exact absurd h (by decide)⟩
    · exact ⟨_, _, _, _, _, _, rfl, by simp, by simp, fun h => absurd h (by decide)⟩
    · exact ⟨_, _, _, _, _, _, rfl, by intro c hc; simp at hc; subst hc; exact ih _ _ _ _ h2, by simp, fun h => by simp⟩
    · refine ⟨_, _, _, _, _, _, rfl, ?_, by simp, fun h => by simp⟩
      intro c hc; simp at hc
      rcases hc with rfl | rfl
      · exact ih _ _ _ _ h2
      · exact ih _ _ _ _ h3
    · refine ⟨_, _, _, _, _, _, rfl, ?_, by simp, fun h => by simp⟩
      have hds : ∀ (ds : List Code) (ns : List (List UInt8)) (U V : Nat), CtG (Cst n) ns ds U V → ∀ d ∈ ds, Sh (2 * n + 1) d := by
        intro ds
        induction ds with
        | nil => intro _ _ _ _ d hd; cases hd
        | cons d0 ds ihd =>
          intro ns U V hf d hd
          obtain ⟨x, o, b, ub, vb, U', V', rfl, g2, g3, -, -⟩ := hf
          rcases List.mem_cons.1 hd with rfl | hd
          · exact ⟨_, _, _, _, _, _, rfl, by intro c hc; simp at hc; subst hc; exact Cst.sh n _ _ _ _ g2, by simp, fun h => by simp⟩
          · exact ihd _ _ _ g3 d hd
      intro c hc
      rcases List.mem_append.1 hc with hc | hc
      · exact hds ds _ _ _ h4 c hc
      · simp at hc; subst hc; exact ih _ _ _ _ h5
    · refine ⟨_, _, _, _, _, _, rfl, ?_, by simp, fun h => by simp⟩
      intro c hc; simp at hc
      rcases hc with rfl | rfl
      · exact ih _ _ _ _ h3
      · exact ih _ _ _ _ h4
    · exact ⟨_, _, _, _, _, _, rfl, by intro c hc; simp at hc; subst hc; exact ih _ _ _ _ h3, by simp, fun h => by simp⟩
    · refine ⟨_, _, _, _, _, _, rfl, ?_, by simp, fun h => by simp⟩
      intro c hc; simp at hc
      rcases hc with rfl | rfl | rfl
      · exact ih _ _ _ _ h2
      · exact ih _ _ _ _ h3
      · exact ih _ _ _ _ h4
    · refine ⟨_, _, _, _, _, _, rfl, ?_, by simp, fun h => by simp⟩
      intro c hc; simp at hc
      rcases hc with rfl | rfl
      · exact ih _ _ _ _ h2
      · exact ih _ _ _ _ h3
    · have har : ∀ (bs qs : List Code) (U V : Nat), CtA (Cst n) n ns bs qs U V → (∀ b ∈ bs, Sh (2 * n + 1) b) ∧ ∀ q ∈ qs, Sh (2 * n + 1) q := by
        intro bs
        induction bs with
        | nil =>
          intro qs U V h
          cases qs with
          | nil => exact ⟨by simp, by simp⟩
          | cons _ _ => exact h.elim
        | cons b bs ihb =>
          intro qs U V h
          cases qs with
          | nil => exact h.elim
          | cons q qs =>
            obtain ⟨xs, c, ub, vb, U', V', g1, g2, g3, -, -⟩ := h
            obtain ⟨k1, k2⟩ := ihb qs _ _ g3
            refine ⟨?_, ?_⟩
            · intro c hc
              rcases List.mem_cons.1 hc with rfl | hc
              · exact ih _ _ _ _ g2
              · exact k1 c hc
            · intro c hc
              rcases List.mem_cons.1 hc with rfl | hc
              · have hs := Pt.sh n _ _ _ g1
                exact Sh.le (by omega) hs
              · exact k2 c hc
      obtain ⟨k1, k2⟩ := har bs qs U V h3
      refine ⟨_, _, _, _, _, _, rfl, ?_, k2, fun h => by simp⟩
      intro c hc
      rcases List.mem_cons.1 hc with rfl | hc
      · exact ih _ _ _ _ h2
      · exact k1 c hc

/-- The contract of the typing: of all that goes down less far than K. -/
def ExOk (y base K : Nat) : Prop := ∀ ⦃w : World⦄ ⦃s : TyS⦄ ⦃l : List EN⦄ ⦃bp : Nat → Value⦄ ⦃ns : List (List UInt8)⦄ ⦃f d M N u v c : Nat⦄ ⦃t : Code⦄ ⦃p : Value⦄, Cy y base w s → EnT w base l bp s → EO f d M l ns → Cst N ns t u v → d + wt t < K → Nd w (fun b => base ≤ b) t p → M * u + v ≤ c → pot w s + (c : Int) ≤ 9223372036854775807 →
  Calls Tryz.prog 24 #[ptrV y, p, bp 0] w (TyR y base w s c)

theorem Cy.pot0 {y base : Nat} {w : World} {s : TyS} (h : Cy y base w s) : 0 ≤ pot w s := by
  unfold Go.Proofs.YtnbhnjokpcdnnaaGreatDoor.pot
  have := h.sw0
  split <;> omega
end Go.Proofs.YtnbhnjokpcdnnaaGreatDoor
