import Derived.Deep.Cut
import Derived.Deep.CutRange
import Derived.Deep.CutBlock
import Derived.StillTailTactics
import Derived.Test.YtklimomeendajaaGreatDoorMA9
import Derived.Test.YtklimomeendajaaGreatDoorMB6
set_option linter.unusedVariables false
set_option linter.unusedSimpArgs false
/- scope.Kept. -/
namespace Go.Proofs.YtklimomeendajaaGreatDoor
open Go.RowKit

theorem geti_has {l : List Int} {i v : Int} (h : geti l i = some v) : ∃ n : Nat, i = (n : Int) ∧ n < l.length ∧ l.getD n 0 = v := by
  unfold geti at h
  split at h
  · obtain ⟨hlt, he⟩ := List.getElem?_eq_some_iff.1 h
    exact ⟨i.toNat, by omega, hlt, by simp [hlt, he]⟩
  · cases h

theorem seg_has {l m : List Int} {a b : Int} (h : seg l a b = some m) : ∃ x y : Nat, a = (x : Int) ∧ b = (y : Int) ∧ x ≤ y ∧ y ≤ l.length ∧ m = (l.take y).drop x := by
  unfold seg at h
  split at h
  · injection h with h
    exact ⟨a.toNat, b.toNat, by omega, by omega, by omega, by omega, h.symm⟩
  · cases h

/-- A row of numbers that has one, and what a part of it reads as. -/
theorem rowSeg {w : World} {base : Nat} {e : TypeId} {v : Value} {l : List Int} (h : w.ownsRow base e 1 v l.length (l.map (.int .i64))) (hl : l ≠ []) :
    ∃ g cap, v = .slice (some ⟨g, 0, none⟩) l.length cap ∧ l.length ≤ cap ∧ g < w.heap.size ∧ (∀ i, w.frozen? ⟨g, i, none⟩ = false) ∧ ∀ x y i u, ((l.take y).drop x)[i]? = some u → w.cell? ⟨g, x + i, none⟩ = some (.int .i64 u) := by
  have hc := h
  rcases h.2 with ⟨_, h0⟩ | ⟨g, cap, cur, rfl, hg⟩
  · exact absurd (List.length_eq_zero_iff.1 h0) hl
  · refine ⟨g, cap, rfl, ownsRow_cap h, (h.lt g rfl).2, ?_, ?_⟩
    · intro i
      simp [World.frozen?, hg.2.1]
    · intro x y i u hu
      rw [List.getElem?_drop, List.getElem?_take] at hu
      split at hu
      case isFalse => cases hu
      case isTrue hy =>
      obtain ⟨hlt, rfl⟩ := List.getElem?_eq_some_iff.1 hu
      rw [World.ownsRow.cellAt h (x + i) (by omega)]
      simp [hlt]

theorem K1At.lt {w : World} {lo : Nat} {u : List Bool} {v : Value} (h : K1At w lo u v) {b : Nat} (hb : v.ownBlock = some b) : lo ≤ b ∧ b < w.heap.size := by
  rcases h with ⟨_, rfl⟩ | ⟨g, h1, rfl, h3⟩
  · cases hb
  · cases hb; exact ⟨h1, blk_lt h3⟩

theorem used_seg {ms : List Int} {x y nb : Nat} {u : List Bool} (hu : kUsed nb ((ms.take y).drop x) (List.replicate nb false) = some u) (hxy : x ≤ y) (hy : y ≤ ms.length) (E P : Value) (root : Int) (ba : Option Addr) (bc g off cap : Nat) (w0 w : World) (ho : off = x ∨ x = y)
    (hm : g < w0.heap.size ∧ (∀ i, w0.frozen? ⟨g, i, none⟩ = false) ∧ ∀ x y i u, ((ms.take y).drop x)[i]? = some u → w0.cell? ⟨g, x + i, none⟩ = some (.int .i64 u)) (hF : Fr (fun _ => False) w0 w) (hnb : nb ≤ 200000) (hml : ms.length ≤ 200000) :
    Calls Tryz.prog 76 #[.agg #[E, P, .int .i64 root, .slice ba nb bc], .slice (some ⟨g, off, none⟩) (y - x) cap] w fun e w' => Fr (fun _ => False) w w' ∧ ∃ g', w.heap.size ≤ g' ∧ e = .returned (.slice (some ⟨g', 0, none⟩) nb nb) ∧ w'.heap[g']? = some (.cells (u.map .bool).toArray 4 (0, 0)) := by
  have hl : ((ms.take y).drop x).length = y - x := by simp; omega
  have hb := hF.block g hm.1 id
  have h := used_any ((ms.take y).drop x) nb u hu E P root ba bc g off cap w (fun i v hi => by
    rcases ho with rfl | rfl
    · exact (World.cell?_of_block (w := w0) hb).trans (hm.2.2 _ _ _ _ hi)
    · obtain ⟨h1, -⟩ := List.getElem?_eq_some_iff.1 hi
      rw [hl] at h1
      omega) (fun i => (World.frozen?_of_block (w := w0) hb).trans (hm.2.1 i)) (Nat.lt_of_lt_of_le hm.1 hF.size) hnb (by rw [hl]; omega)
  rw [hl] at h
  exact h
end Go.Proofs.YtklimomeendajaaGreatDoor

/- scope.Kept itself. -/
namespace Go.Proofs.YtklimomeendajaaGreatDoor
open Go.RowKit

set_option maxHeartbeats 3200000 in
set_option maxRecDepth 100000 in
theorem kept_any (t : RS) (ms : List Int) (kf : List (List Bool)) (hk : kKept t.bnds.length ms t.exps [] [] = some kf) (root : Int) (E P B MV : Value) (cE : List Value) (w : World) (ht : Tr w t E P B cE) (hm : w.ownsRow 0 3 1 MV ms.length (ms.map (.int .i64))) (hne : t.exps.length ≤ 200000) (hnb : t.bnds.length ≤ 200000) (hml : ms.length = t.exps.length) :
    Calls Tryz.prog 41 #[.agg #[E, P, .int .i64 root, B], MV] w fun e w' => Fr (fun _ => False) w w' ∧ ∃ kv cK, e = .returned kv ∧ w'.ownsRow (w.heap.size + 1) 163 1 kv kf.length cK ∧ KAt w' (w.heap.size + 1) kf cK := by
  obtain ⟨ea, ec, rfl⟩ := ownsRow_len ht.e
  obtain ⟨pa, pc, rfl⟩ := ownsRow_len ht.p
  obtain ⟨ba, bc, rfl⟩ := ownsRow_len ht.b
  obtain ⟨va, vc, rfl⟩ := ownsRow_len hm
  have HT : Hid (Tr w t (.slice ea t.exps.length ec) (.slice pa t.pats.length pc) (.slice ba t.bnds.length bc) cE) := ht
  have HMs : Hid (w.ownsRow 0 3 1 (.slice va ms.length vc) ms.length (ms.map (.int .i64))) := hm
  have HX : Hid (kKept t.bnds.length ms t.exps [] [] = some kf) := hk
  have HML : Hid (ms.length = t.exps.length) := hml
  clear hk ht hm hml
  go_enter Tryz.func41, Tryz.ntmps41
  go_wp2_with fail
  have HC : Hid (Kc w (w.alloc (.cells #[.slice ea t.exps.length ec, .slice pa t.pats.length pc, .int .i64 root, .slice ba t.bnds.length bc] 74)) (.cells #[.slice ea t.exps.length ec, .slice pa t.pats.length pc, .int .i64 root, .slice ba t.bnds.length bc] 74 (0, 0)) [] [] (.slice none 0 0) (.slice none 0 0) []) :=
    ⟨(Fr.refl _ w).alloc _, blk_new w _, World.ownsRow_nil _ _ _ _, World.ownsRow_nil _ _ _ _, rfl, (fun b h => by cases h), (fun b h => by cases h), (fun b h => by cases h)⟩
  go_loopg [5, 6, 7] t.exps.length (fun k sv kv iv wr => ∃ (j : Nat) (st : List Int) (ks : List (List Bool)) (cK : List Value), iv = .int .i64 j ∧ j ≤ t.exps.length ∧ k = t.exps.length - j ∧ st.length = j ∧ ks.length = j ∧ (∀ (i : Nat) (v : Int), st[i]? = some v → v ≤ (i : Int)) ∧ kKept t.bnds.length ms (t.exps.drop j) st ks = some kf ∧ Kc w wr (.cells #[.slice ea t.exps.length ec, .slice pa t.pats.length pc, .int .i64 root, .slice ba t.bnds.length bc] 74 (0, 0)) st ks sv kv cK)
  case atStart => exact ⟨0, [], [], [], rfl, Nat.zero_le _, rfl, rfl, rfl, (fun i v h => by simp at h), HX.out, HC.out⟩
  case round =>
    obtain ⟨j, st, ks, cK, rfl, hj, hk, hsl, hkl, hsv, hx, hC⟩ := hrel
    have HSV : Hid (∀ (k : Nat), k < st.length → st.getD k 0 ≤ (k : Int)) := fun k hk => by have := hsv k (st.getD k 0) (by simp [hk]); exact this
    clear hsv
    have HM : Hid (gk = t.exps.length - j) := hk
    obtain ⟨sa, sc, rfl⟩ := ownsRow_len hC.s
    obtain ⟨ka, kc, rfl⟩ := ownsRow_len hC.k
    have HK : Hid (Kc w wr (.cells #[.slice ea t.exps.length ec, .slice pa t.pats.length pc, .int .i64 root, .slice ba t.bnds.length bc] 74 (0, 0)) st ks (.slice sa st.length sc) (.slice ka ks.length kc) cK) := hC
    obtain ⟨⟨m0, m1, m2, m3⟩, -⟩ := cells4 hC.tb
    have hl := blk_lt hC.tb
    by_cases hjl : j < t.exps.length
    · obtain ⟨e, he⟩ : ∃ e, t.exps[j]? = some e := ⟨_, List.getElem?_eq_getElem hjl⟩
      have hdrop : t.exps.drop j = e :: t.exps.drop (j + 1) := by
        rw [List.drop_eq_getElem_cons hjl]
        rw [List.getElem?_eq_getElem hjl] at he
        injection he with he
        rw [he]
      have hTr : Tr wr t (.slice ea t.exps.length ec) (.slice pa t.pats.length pc) (.slice ba t.bnds.length bc) cE := HT.out.keep fun b hb => hC.fr.block b (HT.out.lt b hb) id
      obtain ⟨kk, nu, bi, e1, e2, e3, fs, am⟩ := e
      obtain ⟨eg, ecap, n, vf, va', hE, hn, hnl, hgl, hAt, hmem, x0, x1, x2, x3, x4, x5, x6, x7⟩ := hTr.ex (i := (j : Int)) (by unfold expAt; rw [if_pos (by omega)]; exact he)
      obtain rfl : n = j := by omega
      injection hE with hE1 hE2 hE3
      clear hE2
      subst hE1 hE3
      obtain ⟨fa, fc, rfl⟩ := ownsRow_len hAt.f
      obtain ⟨aa, ac, rfl⟩ := ownsRow_len hAt.a
      have HAF : Hid (wr.ownsRow 0 165 3 (.slice fa fs.length fc) fs.length (funCells fs)) := hAt.f
      obtain ⟨mg, mcap, hMV, hmc, hmg, hmf, hmr⟩ := rowSeg HMs.out (by intro h; have := HML.out; rw [h] at this; simp at this; omega)
      injection hMV with hM1 hM3 hM2
      clear hM3
      subst hM1 hM2
      have HMR : Hid (mg < w.heap.size ∧ (∀ i, w.frozen? ⟨mg, i, none⟩ = false) ∧ ∀ x y i u, ((ms.take y).drop x)[i]? = some u → w.cell? ⟨mg, x + i, none⟩ = some (.int .i64 u)) := ⟨hmg, hmf, hmr⟩
      rw [hdrop] at hx
      have HXX : Hid (kKept t.bnds.length ms (⟨kk, nu, bi, e1, e2, e3, fs, am⟩ :: t.exps.drop (n + 1)) st ks = some kf) := hx
      clear hx hdrop he hTr hC hk hn hAt hmem hmf hmr
      have HSL : Hid (st.length = n ∧ ks.length = n) := ⟨hsl, hkl⟩
      clear hsl hkl
      go_upto_block 2 with fail
      go_cut [9, 10] from 11 to 78 (fun sv lv wc => ∃ (a : Int) (u : List Bool), sv = .int .i64 a ∧ a ≤ (n : Int) ∧ kKept t.bnds.length ms (t.exps.drop (n + 1)) (st ++ [a]) (ks ++ [u]) = some kf ∧ Kc w wc (.cells #[.slice (some ⟨eg, 0, none⟩) t.exps.length ec, .slice pa t.pats.length pc, .int .i64 root, .slice ba t.bnds.length bc] 74 (0, 0)) st ks (.slice sa st.length sc) (.slice ka ks.length kc) cK ∧ K1At wc (w.heap.size + 1) u lv ∧ ∀ b, lv.ownBlock = some b → (Value.slice sa st.length sc).ownBlock ≠ some b ∧ (Value.slice ka ks.length kc).ownBlock ≠ some b)
      case first =>
        by_cases h0 : kk = 1 ∨ kk = 2 ∨ kk = 3 ∨ kk = 4 ∨ kk = 5 ∨ kk = 9
        · have hx := HXX.out
          unfold kKept at hx
          rw [if_pos h0, HSL.out.1] at hx
          have HX2 : Hid (kKept t.bnds.length ms (t.exps.drop (n + 1)) (st ++ [(n : Int)]) (ks ++ [[]]) = some kf) := hx
          clear hx HXX
          rcases h0 with rfl | rfl | rfl | rfl | rfl | rfl
          all_goals
            go_wp2_with fail
            go_meet
            exact ⟨n, [], rfl, Int.le_refl _, HX2.out, HK.out.go ((Fr.refl _ wr).alloc _), .inl ⟨rfl, rfl⟩, fun b h => by cases h⟩
        · have hx := HXX.out
          unfold kKept at hx
          rw [if_neg h0] at hx
          simp only [not_or] at h0
          obtain ⟨n1, n2, n3, n4, n5, n9⟩ := h0
          by_cases h11 : kk = 11
          · subst h11
            rw [if_pos rfl] at hx
            cases fs with
            | nil => cases hx
            | cons g fl =>
            simp only at hx
            obtain ⟨a, ha, hx⟩ := bindO hx
            obtain ⟨b, hb, hx⟩ := bindO hx
            obtain ⟨m, hmm, hx⟩ := bindO hx
            obtain ⟨u, hu, hx⟩ := bindO hx
            have HX2 : Hid (kKept t.bnds.length ms (t.exps.drop (n + 1)) (st ++ [a]) (ks ++ [u]) = some kf) := hx
            obtain ⟨g1, g2, g3⟩ := g
            obtain ⟨x, hg3, hxl, hxa⟩ := geti_has ha
            obtain ⟨y, he1, hyl, hyb⟩ := geti_has hb
            obtain ⟨A, B', hA, hB, hAB, hBl, hm2⟩ := seg_has hmm
            obtain ⟨sg, scap, hS, cx, hsg⟩ := rowInt HK.out.s hxl
            injection hS with hS1 hS2 hS3
            clear hS2
            subst hS1 hS3
            obtain ⟨sg', scap', hS, cy, -⟩ := rowInt HK.out.s hyl
            injection hS with hS1 hS2 hS3
            injection hS1 with hS1
            injection hS1 with hS1 _ _
            subst hS1
            clear hS2 hS3
            obtain ⟨fg, fcap, hFv, -, -, cf⟩ := funRow HAF.out (i := 0) (by simp)
            injection hFv with hF1 hF2 hF3
            clear hF2
            subst hF1 hF3
            have hfg : fg < wr.heap.size := (HAF.out.lt fg rfl).2
            simp only at hg3 he1
            subst hg3 he1 hm2
            have hAx := HSV.out x hxl
            rw [hxa, hA] at hAx
            rw [hxa, hA] at cx
            rw [hyb, hB] at cy
            subst hA hB
            simp only [List.getElem_cons_zero, Nat.zero_mul, Nat.zero_add] at cf
            have HU : Hid (kUsed t.bnds.length ((ms.take B').drop A) (List.replicate t.bnds.length false) = some u) := hu
            have q1 : (x : Int) < (st.length : Int) := by omega
            have q2 : (y : Int) < (st.length : Int) := by omega
            have q3 : (A : Int) ≤ (B' : Int) := by omega
            have q4 : (B' : Int) ≤ (vc : Int) := by omega
            have q5 : ¬ vc = A := by have := HSL.out.1; have := HML.out; omega
            have q6 : A ≤ n := by have := HSL.out.1; omega
            clear hx ha hb hmm hu hxa hyb HXX
            go_wp2_with fail
            refine region_tail 9 mixed (by kernel_rfl) ?_
            simp only [List.take_succ_cons, List.take_zero, List.drop_succ_cons, List.drop_zero]
            repeat still_step
            refine wpStill_nil ?_
            go_wp2_with fail
            all_goals
              generalize hW : (wr.alloc (.cells #[.int .i64 11, .int .i64 nu, .int .i64 bi, .int .i64 (y : Int), .int .i64 e2, .int .i64 e3, .slice (some ⟨fg, 0, none⟩) (fl.length + 1) fc, .slice aa am.length ac] 162)).drew = W
              have HFW : Hid (Fr (fun _ => False) wr W) := by rw [← hW]; show Fr _ _ _; exact (by repeat (first | with_reducible exact Fr.refl _ _ | (with_reducible refine Fr.drew ?_) | (with_reducible refine Fr.drewN ?_ _) | (with_reducible refine Fr.alloc ?_ _) | ((with_reducible refine Fr.setCell ?_ ?_ _); rotate_left; first | exact .inl rfl | exact .inr (Nat.le_refl _) | exact .inl (Nat.le_refl _) | (focus (left; simp; done)) | (focus (left; simp; omega)) | (focus (left; omega)) | (focus (right; simp; done)) | (focus (right; simp; omega)) | (focus (right; omega))) | exact Fr.refl _ _))
              have HFM : Hid (Fr (fun _ => False) w W) := HK.out.fr.trans HFW.out (fun _ h => h.elim)
              clear hW
              refine (used_seg HU.out hAB hBl _ _ _ _ _ mg _ _ w W (by first | exact .inl rfl | (right; omega)) HMR.out HFM.out hnb (by rw [HML.out]; exact hne)).mono ?_
              rintro r5 w5 ⟨hF5, g5, hg5, rfl, hB5⟩
              have HF5 : Hid (Fr (fun _ => False) wr w5) := HFW.out.trans hF5 (fun _ h => h.elim)
              have HB5 : Hid (wr.heap.size ≤ g5 ∧ w5.heap[g5]? = some (.cells (u.map .bool).toArray 4 (0, 0))) := ⟨Nat.le_trans HFW.out.size hg5, hB5⟩
              clear hF5 hB5 hg5 HFW HFM
              go_wp2_with fail
              go_meet
              refine ⟨A, u, rfl, by omega, HX2.out, HK.out.go HF5.out, .inr ⟨g5, by have := blk_lt HK.out.tb; have := HB5.out.1; omega, by rw [kUsed_len HU.out]; simp, HB5.out.2⟩, fun b hb => ?_⟩
              injection hb with hb
              subst hb
              exact ⟨fun e => by have h1 : g5 < wr.heap.size := (HK.out.s.lt _ e).2; have := HB5.out.1; omega, fun e => by have h1 : g5 < wr.heap.size := (HK.out.k.lt _ e).2; have := HB5.out.1; omega⟩
          · rw [if_neg h11] at hx
            by_cases h12 : kk = 12
            · subst h12
              rw [if_pos rfl] at hx
              obtain ⟨b, hb, hx⟩ := bindO hx
              obtain ⟨m, hmm, hx⟩ := bindO hx
              obtain ⟨u, hu, hx⟩ := bindO hx
              have HX2 : Hid (kKept t.bnds.length ms (t.exps.drop (n + 1)) (st ++ [b]) (ks ++ [u]) = some kf) := hx
              obtain ⟨y, he1, hyl, hyb⟩ := geti_has hb
              obtain ⟨A, B', hA, hB, hAB, hBl, hm2⟩ := seg_has hmm
              obtain ⟨sg, scap, hS, cy, hsg⟩ := rowInt HK.out.s hyl
              injection hS with hS1 hS2 hS3
              clear hS2
              subst hS1 hS3
              simp only at he1
              subst he1 hm2
              have hAx := HSV.out y hyl
              rw [hyb, hA] at hAx
              rw [hyb, hA] at cy
              have hBn : B' = n := by have := HSL.out.1; omega
              subst hA hBn
              have HU : Hid (kUsed t.bnds.length ((ms.take B').drop A) (List.replicate t.bnds.length false) = some u) := hu
              have q2 : (y : Int) < (st.length : Int) := by omega
              have q3 : (A : Int) ≤ (B' : Int) := by omega
              have q4 : (B' : Int) ≤ (vc : Int) := by omega
              have q5 : ¬ vc = A := by have := HSL.out.1; have := HML.out; omega
              clear hx hb hmm hu hyb HXX hB
              go_wp2_with fail
              refine region_tail 5 mixed (by kernel_rfl) ?_
              simp only [List.take_succ_cons, List.take_zero, List.drop_succ_cons, List.drop_zero]
              repeat still_step
              refine wpStill_nil ?_
              go_wp2_with fail
              all_goals
                generalize hW : (wr.alloc (.cells #[.int .i64 12, .int .i64 nu, .int .i64 bi, .int .i64 (y : Int), .int .i64 e2, .int .i64 e3, .slice fa fs.length fc, .slice aa am.length ac] 162)).drew = W
                have HFW : Hid (Fr (fun _ => False) wr W) := by rw [← hW]; show Fr _ _ _; exact (by repeat (first | with_reducible exact Fr.refl _ _ | (with_reducible refine Fr.drew ?_) | (with_reducible refine Fr.drewN ?_ _) | (with_reducible refine Fr.alloc ?_ _) | ((with_reducible refine Fr.setCell ?_ ?_ _); rotate_left; first | exact .inl rfl | exact .inr (Nat.le_refl _) | exact .inl (Nat.le_refl _) | (focus (left; simp; done)) | (focus (left; simp; omega)) | (focus (left; omega)) | (focus (right; simp; done)) | (focus (right; simp; omega)) | (focus (right; omega))) | exact Fr.refl _ _))
                have HFM : Hid (Fr (fun _ => False) w W) := HK.out.fr.trans HFW.out (fun _ h => h.elim)
                clear hW
                refine (used_seg HU.out hAB hBl _ _ _ _ _ mg _ _ w W (by first | exact .inl rfl | (right; omega)) HMR.out HFM.out hnb (by rw [HML.out]; exact hne)).mono ?_
                rintro r5 w5 ⟨hF5, g5, hg5, rfl, hB5⟩
                have HF5 : Hid (Fr (fun _ => False) wr w5) := HFW.out.trans hF5 (fun _ h => h.elim)
                have HB5 : Hid (wr.heap.size ≤ g5 ∧ w5.heap[g5]? = some (.cells (u.map .bool).toArray 4 (0, 0))) := ⟨Nat.le_trans HFW.out.size hg5, hB5⟩
                clear hF5 hB5 hg5 HFW HFM
                go_wp2_with fail
                go_meet
                refine ⟨A, u, rfl, by omega, HX2.out, HK.out.go HF5.out, .inr ⟨g5, by have := blk_lt HK.out.tb; have := HB5.out.1; omega, by rw [kUsed_len HU.out]; simp, HB5.out.2⟩, fun b hb => ?_⟩
                injection hb with hb
                subst hb
                exact ⟨fun e => by have h1 : g5 < wr.heap.size := (HK.out.s.lt _ e).2; have := HB5.out.1; omega, fun e => by have h1 : g5 < wr.heap.size := (HK.out.k.lt _ e).2; have := HB5.out.1; omega⟩
            · rw [if_neg h12] at hx
              obtain ⟨b, hb, hx⟩ := bindO hx
              have HX2 : Hid (kKept t.bnds.length ms (t.exps.drop (n + 1)) (st ++ [b]) (ks ++ [[]]) = some kf) := hx
              obtain ⟨y, he1, hyl, hyb⟩ := geti_has hb
              obtain ⟨sg, scap, hS, cy, hsg⟩ := rowInt HK.out.s hyl
              injection hS with hS1 hS2 hS3
              clear hS2
              subst hS1 hS3
              simp only at he1
              subst he1
              have hbn := HSV.out y hyl
              rw [hyb] at hbn
              have hbn : b ≤ (n : Int) := by have := HSL.out.1; omega
              rw [hyb] at cy
              have q2 : (y : Int) < (st.length : Int) := by omega
              clear hx hb hyb HXX
              go_wp2_with fail
              go_meet
              exact ⟨b, [], rfl, hbn, HX2.out, HK.out.go ((Fr.refl _ wr).alloc _), .inl ⟨rfl, rfl⟩, fun b h => by cases h⟩
      case rest =>
        obtain ⟨a, u, rfl, han, hx, hC, hu, hd⟩ := hcut
        obtain ⟨xa, xn, xc, rfl⟩ : ∃ x y z, u10 = .slice x y z := by rcases hu with ⟨_, rfl⟩ | ⟨_, _, rfl, _⟩ <;> exact ⟨_, _, _, rfl⟩
        have HC2 : Hid (Kc w wc (.cells #[.slice (some ⟨eg, 0, none⟩) t.exps.length ec, .slice pa t.pats.length pc, .int .i64 root, .slice ba t.bnds.length bc] 74 (0, 0)) st ks (.slice sa st.length sc) (.slice ka ks.length kc) cK) := hC
        have HU1 : Hid (K1At wc (w.heap.size + 1) u (.slice xa xn xc)) := hu
        have HD : Hid (∀ b, (Value.slice xa xn xc).ownBlock = some b → (Value.slice sa st.length sc).ownBlock ≠ some b ∧ (Value.slice ka ks.length kc).ownBlock ≠ some b) := hd
        have HX2 : Hid (kKept t.bnds.length ms (t.exps.drop (n + 1)) (st ++ [a]) (ks ++ [u]) = some kf) := hx
        have hwc := blk_lt hC.tb
        have hS1 := hC.s
        clear hC hu hd hx HK HXX HAF x0 x1 x2 x3 x4 x5 x6 x7 m0 m1 m2 m3 hl hgl
        go_wp2_with (at_builtin; refine wpList_app slInt rfl (.tmp 71) (.tmp 73) rfl (w.heap.size + 1) st.length (st.map (.int .i64)) _ rfl (hS1.alloc _) ⟨wc.heap.size, 0, none⟩ 1 1 [.int .i64 a] rfl rfl ?c1 ?c2 (by decide) ?b1 ?b2 ?b3 ?grow)
        case c1 => intro i v hi; exact cells_new _ rfl hi
        case c2 => intro v hv; simp at hv; rcases hv with rfl; rfl
        case b1 => unfold maxLen; have := HSL.out.1; omega
        case b2 => have := HSL.out.1; omega
        case b3 => simp; omega
        case grow =>
          intro v' w3 hown hgrow hv g' cap' hfm
          subst hfm
          have hF0 : Fr (fun _ => False) wc (wc.alloc (.cells #[.int .i64 a] 3)) := (Fr.refl _ wc).alloc _
          have hC3 := (HC2.out.go hF0).starts (a := a) hgrow (by simpa using hown) (by simpa using hv)
          have HC3 : Hid (Kc w w3 (.cells #[.slice (some ⟨eg, 0, none⟩) t.exps.length ec, .slice pa t.pats.length pc, .int .i64 root, .slice ba t.bnds.length bc] 74 (0, 0)) (st ++ [a]) ks (.slice (some ⟨g', 0, none⟩) (st.length + 1) cap') (.slice ka ks.length kc) cK) := hC3
          have HU3 : Hid (K1At w3 (w.heap.size + 1) u (.slice xa xn xc)) := by
            refine K1At.keep HU1.out fun b hb => ?_
            have h1 := (HU1.out.lt hb).2
            exact (hgrow.block b (by simp; omega) (fun e => (HD.out b hb).1 e.symm)).trans (Below.heap_alloc _ _ _ h1)
          have HD3 : Hid (∀ b, (Value.slice xa xn xc).ownBlock = some b → (Value.slice (some ⟨g', 0, none⟩) (st.length + 1) cap').ownBlock ≠ some b ∧ (Value.slice ka ks.length kc).ownBlock ≠ some b) := by
            intro b hb
            refine ⟨fun e => ?_, (HD.out b hb).2⟩
            have h1 := (HU1.out.lt hb).2
            rcases hv with h2 | h2
            · exact (HD.out b hb).1 (h2.symm.trans e)
            · rw [h2] at e
              injection e with e
              have h3 : (wc.alloc (.cells #[.int .i64 a] 3)).heap.size = wc.heap.size + 1 := by simp
              omega
          have hw3 := blk_lt hC3.tb
          have hK3 := hC3.k
          clear hown hgrow hv hF0 hC3 HC2 HU1 HD hS1
          go_wp2_with (at_builtin; refine wpList_app slBs rfl (.tmp 75) (.tmp 77) rfl (w.heap.size + 1) ks.length cK _ rfl (hK3.alloc _) ⟨w3.heap.size, 0, none⟩ 1 1 [.slice xa xn xc] rfl rfl ?c1 ?c2 (by decide) ?b1 ?b2 ?b3 ?grow)
          case c1 => intro i v hi; exact cells_new _ rfl hi
          case c2 => intro v hv; simp at hv; rcases hv with rfl; rfl
          case b1 => unfold maxLen; have := HSL.out.2; omega
          case b2 => have := HSL.out.2; omega
          case b3 => simp; omega
          case grow =>
            intro v' w4 hown hgrow hv g4 cap4 hfm
            subst hfm
            have hF0 : Fr (fun _ => False) w3 (w3.alloc (.cells #[.slice xa xn xc] 163)) := (Fr.refl _ w3).alloc _
            have hC4 := (HC3.out.go hF0).kepts (u := u) (x := .slice xa xn xc) (HU3.out.keep fun b hb => Below.heap_alloc _ _ _ (HU3.out.lt hb).2) HD3.out hgrow (by simpa using hown) (by simpa using hv)
            have HC4 : Hid (Kc w w4 (.cells #[.slice (some ⟨eg, 0, none⟩) t.exps.length ec, .slice pa t.pats.length pc, .int .i64 root, .slice ba t.bnds.length bc] 74 (0, 0)) (st ++ [a]) (ks ++ [u]) (.slice (some ⟨g', 0, none⟩) (st.length + 1) cap') (.slice (some ⟨g4, 0, none⟩) (ks.length + 1) cap4) (cK ++ [.slice xa xn xc])) := hC4
            clear hown hgrow hv hF0 hC4 HC3 HU3 HD3 hK3
            go_wp2_with fail
            go_roundg (t.exps.length - (n + 1))
            case measure => rw [HM.out]; omega
            case rel =>
              refine ⟨n + 1, st ++ [a], ks ++ [u], _, by go_num, by omega, rfl, by simp [HSL.out.1], by simp [HSL.out.2], ?_, HX2.out, HC4.out⟩
              intro i v hi
              obtain ⟨h1, h2⟩ := List.getElem?_eq_some_iff.1 hi
              by_cases h3 : i < st.length
              · rw [List.getElem_append_left h3] at h2
                have := HSV.out i h3
                simp [h3, h2] at this
                exact this
              · have h4 : i = n := by have := HSL.out.1; simp at h1; omega
                subst h4
                rw [List.getElem_append_right (by omega)] at h2
                simp at h2
                rw [← h2]
                exact han
    · obtain rfl : j = t.exps.length := by omega
      rw [List.drop_length] at hx
      simp only [kKept, Option.some.injEq] at hx
      subst hx
      clear hC hsl hkl hk
      go_wp2_with fail
      go_ret
      exact ⟨HK.out.fr, _, cK, rfl, HK.out.k, HK.out.at_⟩
end Go.Proofs.YtklimomeendajaaGreatDoor
