import Derived.Test.YtnbhnjokpcdnnaaDoorMB2
set_option linter.unusedVariables false
set_option linter.unusedSimpArgs false
namespace Go.Proofs.YtnbhnjokpcdnnaaDoor
open Go.RowKit

theorem fexp_ih (t : RS) : ∀ n, FIh t (fExp t n)
  | 0 => fun _ _ _ h => by simp [fExp] at h
  | n + 1 => by
    have ih := fexp_ih t n
    intro i sg b h
    unfold fExp at h
    obtain ⟨e, he, h⟩ := Option.bind_eq_some_iff.1 h
    obtain ⟨k, nu, bi, f1, f2, f3, fs, am⟩ := e
    unfold fE at h
    simp only at h
    split at h
    · rename_i hk; subst hk; exact fe_name t _ ih n nu bi f1 f2 f3 fs am i sg b he (by simpa using h.symm)
    rename_i n4
    split at h
    · rename_i hk
      rcases hk with rfl | rfl | rfl
      · exact fe_one22 t _ ih n nu bi f1 f2 f3 fs am i sg b he h
      · exact fe_one23 t _ ih n nu bi f1 f2 f3 fs am i sg b he h
      · exact fe_one24 t _ ih n nu bi f1 f2 f3 fs am i sg b he h
    rename_i n22
    split at h
    · rename_i hk
      obtain ⟨x, hx, h⟩ := Option.bind_eq_some_iff.1 h
      obtain ⟨y, hy, h⟩ := Option.bind_eq_some_iff.1 h
      have hb : b = (x || y) := by simpa using h.symm
      simp only [two, Bool.or_eq_true, beq_iff_eq] at hk
      rcases hk with ((((((((rfl | rfl) | rfl) | rfl) | rfl) | rfl) | rfl) | rfl) | rfl) | rfl
      · exact fe_two7 t _ ih n nu bi f1 f2 f3 fs am i sg b he x y hx hy hb
      · exact fe_two8 t _ ih n nu bi f1 f2 f3 fs am i sg b he x y hx hy hb
      · exact fe_two16 t _ ih n nu bi f1 f2 f3 fs am i sg b he x y hx hy hb
      · exact fe_two17 t _ ih n nu bi f1 f2 f3 fs am i sg b he x y hx hy hb
      · exact fe_two18 t _ ih n nu bi f1 f2 f3 fs am i sg b he x y hx hy hb
      · exact fe_two19 t _ ih n nu bi f1 f2 f3 fs am i sg b he x y hx hy hb
      · exact fe_two20 t _ ih n nu bi f1 f2 f3 fs am i sg b he x y hx hy hb
      · exact fe_two21 t _ ih n nu bi f1 f2 f3 fs am i sg b he x y hx hy hb
      · exact fe_two25 t _ ih n nu bi f1 f2 f3 fs am i sg b he x y hx hy hb
      · exact fe_two26 t _ ih n nu bi f1 f2 f3 fs am i sg b he x y hx hy hb
    rename_i ntwo
    split at h
    · rename_i hk
      obtain ⟨x, hx, h⟩ := Option.bind_eq_some_iff.1 h
      obtain ⟨y, hy, h⟩ := Option.bind_eq_some_iff.1 h
      obtain ⟨z, hz, h⟩ := Option.bind_eq_some_iff.1 h
      subst hk
      exact fe_three t _ ih n nu bi f1 f2 f3 fs am i sg b he x y z hx hy hz (by simpa using h.symm)
    rename_i n13
    split at h
    · rename_i hk; subst hk; exact fe_fn t _ ih n nu bi f1 f2 f3 fs am i sg b he h
    rename_i n12
    split at h
    · rename_i hk
      obtain ⟨x, hx, h⟩ := Option.bind_eq_some_iff.1 h
      obtain ⟨y, hy, h⟩ := Option.bind_eq_some_iff.1 h
      have hb : b = (x || y) := by simpa using h.symm
      rcases hk with rfl | rfl
      · exact fe_let10 t _ ih n nu bi f1 f2 f3 fs am i sg b he x y hx hy hb
      · exact fe_let15 t _ ih n nu bi f1 f2 f3 fs am i sg b he x y hx hy hb
    rename_i n10
    split at h
    · rename_i hk; subst hk; exact fe_letRec t _ ih n nu bi f1 f2 f3 fs am i sg b he h
    rename_i n11
    split at h
    · rename_i hk; subst hk; exact fe_match t _ ih n nu bi f1 f2 f3 fs am i sg b he h
    rename_i n14
    have hb : b = false := by simpa using h.symm
    simp only [two, Bool.or_eq_true, beq_iff_eq, not_or] at ntwo n22 n10
    exact fe_none t _ ih n k nu bi f1 f2 f3 fs am i sg b he hb n4 n22.1 n22.2.1 n22.2.2 ntwo.1.1.1.1.1.1.1.1.1 ntwo.1.1.1.1.1.1.1.1.2 ntwo.1.1.1.1.1.1.1.2 ntwo.1.1.1.1.1.1.2 ntwo.1.1.1.1.1.2 ntwo.1.1.1.1.2 ntwo.1.1.1.2 ntwo.1.1.2 ntwo.1.2 ntwo.2 n13 n12 n10.1 n10.2 n11 n14

end Go.Proofs.YtnbhnjokpcdnnaaDoor

namespace Go.Proofs.YtnbhnjokpcdnnaaDoor
open Go.RowKit

theorem cells7 {w : World} {l : Nat} {a b c d e f g : Value} {t : TypeId} (h : w.heap[l]? = some (.cells #[a, b, c, d, e, f, g] t (0, 0))) :
    (w.cell? ⟨l, 0, none⟩ = some a ∧ w.cell? ⟨l, 1, none⟩ = some b ∧ w.cell? ⟨l, 2, none⟩ = some c ∧ w.cell? ⟨l, 3, none⟩ = some d ∧ w.cell? ⟨l, 4, none⟩ = some e ∧ w.cell? ⟨l, 5, none⟩ = some f ∧ w.cell? ⟨l, 6, none⟩ = some g) ∧ ∀ i, w.frozen? ⟨l, i, none⟩ = false := by
  simp [World.cell?, World.frozen?, h]

set_option maxHeartbeats 3200000 in
set_option maxRecDepth 100000 in
theorem find_any (t : RS) (n : Nat) (root : Int) (b : Bool) (hb : fExp t n root [] = some b) (E P B : Value) (cE : List Value) (w : World) (ht : Tr w t E P B cE) (hne : t.exps.length ≤ 200000) (hnb : t.bnds.length ≤ 200000) :
    Calls Tryd.prog 13 #[.agg #[E, P, .int .i64 root, B]] w fun e w' => Fr (fun _ => False) w w' ∧ ∃ v, e = .returned (.tuple #[v, .bool (!b)]) := by
  obtain ⟨ea, ec, rfl⟩ := ownsRow_len ht.e
  obtain ⟨pa, pc, rfl⟩ := ownsRow_len ht.p
  obtain ⟨ba, bc, rfl⟩ := ownsRow_len ht.b
  have HC : Hid (FCt t root [] b) := fexp_ih t n root [] b hb
  have HT : Hid (Tr w t (.slice ea t.exps.length ec) (.slice pa t.pats.length pc) (.slice ba t.bnds.length bc) cE) := ht
  clear hb ht
  go_enter Tryd.func13, Tryd.ntmps13
  go_wp2_with fail
  go_loopg [5] t.exps.length (fun m i wr => ∃ (k : Nat) (M : Value), i = .int .i64 k ∧ k ≤ t.exps.length ∧ m = t.exps.length - k ∧ wr.heap[w.heap.size]? = some (.cells #[.slice ea t.exps.length ec, .slice pa t.pats.length pc, .int .i64 root, .slice ba t.bnds.length bc] 46 (0, 0)) ∧
    wr.heap[w.heap.size + 1]? = some (.cells #[.slice ea t.exps.length ec, .slice pa t.pats.length pc, .int .i64 root, .slice ba t.bnds.length bc, .slice none 0 0, M, .bool false] 66 (0, 0)) ∧
    wr.ownsRow (w.heap.size + 2) 3 1 M k ((List.replicate k (-1)).map (.int .i64)) ∧ Fr (fun _ => False) w wr)
  case atStart =>
    refine ⟨0, .slice none 0 0, rfl, Nat.zero_le _, rfl, ?_, ?_, World.ownsRow_nil _ _ _ _, (by repeat (first | with_reducible exact Fr.refl _ _ | (with_reducible refine Fr.drew ?_) | (with_reducible refine Fr.drewN ?_ _) | (with_reducible refine Fr.alloc ?_ _) | ((with_reducible refine Fr.setCell ?_ ?_ _); rotate_left; first | exact .inl rfl | exact .inr (Nat.le_refl _) | exact .inl (Nat.le_refl _) | (focus (left; simp; done)) | (focus (left; simp; omega)) | (focus (left; omega)) | (focus (right; simp; done)) | (focus (right; simp; omega)) | (focus (right; omega))) | exact Fr.refl _ _))⟩
    · rw [Below.heap_alloc _ _ _ (by simp)]; exact blk_new w _
    · have := blk_new (w.alloc (.cells #[.slice ea t.exps.length ec, .slice pa t.pats.length pc, .int .i64 root, .slice ba t.bnds.length bc] 46)) (.cells #[.slice ea t.exps.length ec, .slice pa t.pats.length pc, .int .i64 root, .slice ba t.bnds.length bc, .slice none 0 0, .slice none 0 0, .bool false] 66)
      simpa using this
  case round =>
    obtain ⟨k, M, rfl, hk, hm, hl, hq, hM, hF⟩ := hrel
    have HM : Hid (gk = t.exps.length - k) := hm
    clear hm
    obtain ⟨⟨l0, l1, l2, l3⟩, -⟩ := cells4 hl
    obtain ⟨⟨q0, q1, q2, q3, q4, q5, q6⟩, hf⟩ := cells7 hq
    have hll := blk_lt hl
    have hqq := blk_lt hq
    have HQ : Hid (wr.heap[w.heap.size + 1]? = some (.cells #[.slice ea t.exps.length ec, .slice pa t.pats.length pc, .int .i64 root, .slice ba t.bnds.length bc, .slice none 0 0, M, .bool false] 66 (0, 0))) := hq
    have HLL : Hid (wr.heap[w.heap.size]? = some (.cells #[.slice ea t.exps.length ec, .slice pa t.pats.length pc, .int .i64 root, .slice ba t.bnds.length bc] 46 (0, 0))) := hl
    have HF : Hid (Fr (fun _ => False) w wr) := hF
    have f5 := hf 5
    have HMr : Hid (∀ b, M.ownBlock = some b → w.heap.size + 1 + 1 ≤ b) := fun b hb => (hM.lt b hb).1
    obtain ⟨ma, mc, rfl⟩ := ownsRow_len hM
    clear hq hl hf hF
    by_cases hlt : k < t.exps.length
    · go_wp2_with (at_builtin; refine wpList_app slInt rfl (.tmp 16) (.tmp 17) rfl (w.heap.size + 2) k ((List.replicate k (-1)).map (.int .i64)) _ rfl (hM.alloc _) ⟨wr.heap.size, 0, none⟩ 1 1 [.int .i64 (-1)] rfl rfl ?c1 ?c2 (by decide) ?b1 ?b2 ?b3 ?grow)
      case c1 => intro j u hj; match j, hj with | 0, hj => simp at hj; subst hj; simp [Addr.add]
      case c2 => intro u hu; simp at hu; rcases hu with rfl; rfl
      case b1 => unfold maxLen; omega
      case b2 => omega
      case b3 => simp; omega
      case grow =>
        intro v' w3 hown hgrow hv g' cap hfm
        subst hfm
        obtain ⟨k5, g5⟩ := grown_at hqq (by exact ((Fr.refl _ wr).alloc _)) hgrow HMr.out 5
        rw [q5] at k5
        rw [f5] at g5
        have hb1 : w3.heap[w.heap.size + 1]? = wr.heap[w.heap.size + 1]? := (hgrow.block _ (by simp; omega) (fun e => by have := HMr.out _ e.symm; omega)).trans (Below.heap_alloc _ _ _ hqq)
        have hb0 : w3.heap[w.heap.size]? = wr.heap[w.heap.size]? := (hgrow.block _ (by simp; omega) (fun e => by have := HMr.out _ e.symm; omega)).trans (Below.heap_alloc _ _ _ hll)
        have HB : Hid ((w3.setCell ⟨w.heap.size + 1, 5, none⟩ (.slice (some ⟨g', 0, none⟩) (k + 1) cap)).heap[w.heap.size]? = some (.cells #[.slice ea t.exps.length ec, .slice pa t.pats.length pc, .int .i64 root, .slice ba t.bnds.length bc] 46 (0, 0))) := (Below.heap_setCell _ _ _ _ (by show w.heap.size ≠ w.heap.size + 1; omega)).trans (hb0.trans HLL.out)
        have HB1 : Hid ((w3.setCell ⟨w.heap.size + 1, 5, none⟩ (.slice (some ⟨g', 0, none⟩) (k + 1) cap)).heap[w.heap.size + 1]? = some (.cells #[.slice ea t.exps.length ec, .slice pa t.pats.length pc, .int .i64 root, .slice ba t.bnds.length bc, .slice none 0 0, .slice (some ⟨g', 0, none⟩) (k + 1) cap, .bool false] 66 (0, 0))) := blk_set (hb1.trans HQ.out) (by simp)
        have HO : Hid ((w3.setCell ⟨w.heap.size + 1, 5, none⟩ (.slice (some ⟨g', 0, none⟩) (k + 1) cap)).ownsRow (w.heap.size + 2) 3 1 (.slice (some ⟨g', 0, none⟩) (k + 1) cap) (k + 1) ((List.replicate (k + 1) (-1)).map (.int .i64))) := by
          have h1 := ownsRow_block (w' := w3.setCell ⟨w.heap.size + 1, 5, none⟩ (.slice (some ⟨g', 0, none⟩) (k + 1) cap)) hown fun b hb => Below.heap_setCell _ _ _ _ (by have := (hown.lt b hb).1; show b ≠ w.heap.size + 1; omega)
          have h2 : (List.replicate (k + 1) (-1 : Int)).map (Value.int .i64) = (List.replicate k (-1 : Int)).map (Value.int .i64) ++ [.int .i64 (-1)] := by rw [List.replicate_succ']; simp
          rw [h2, List.map_replicate]
          exact h1
        have HF3 : Hid (Fr (fun _ => False) w (w3.setCell ⟨w.heap.size + 1, 5, none⟩ (.slice (some ⟨g', 0, none⟩) (k + 1) cap))) := by
          refine Fr.setCell ((HF.out.alloc _).grown hgrow (fun b hb => .inr (by have := HMr.out b hb; omega))) (.inr (by show w.heap.size ≤ w.heap.size + 1; omega)) _
        clear hown hgrow hv hb0 hb1 HF HQ HLL HMr
        go_wp2_with fail
        go_roundg (t.exps.length - (k + 1))
        case measure => rw [HM.out]; omega
        case rel => exact ⟨k + 1, _, by go_num, by omega, rfl, HB.out, HB1.out, HO.out, HF3.out⟩
    · obtain rfl : k = t.exps.length := by omega
      have hFd : Fd wr (w.heap.size + 1) t root (.slice ea t.exps.length ec) (.slice pa t.pats.length pc) (.slice ba t.bnds.length bc) cE (.slice none 0 0) (.slice ma t.exps.length mc) [] false :=
        ⟨HQ.out, HT.out.keep fun b hb => HF.out.block b (HT.out.lt b hb) id, fun b hb => by have := HT.out.lt b hb; omega, World.ownsRow_nil _ _ _ _, ⟨List.replicate t.exps.length (-1), hM⟩, (fun b h => by cases h), (fun v h => by cases h), hne, hnb⟩
      clear HQ HLL HMr HM hM
      go_wp2_with fail
      refine (HC.out _ _ _ _ _ _ _ _ _ _ hFd).mono ?_
      rintro r w1 ⟨rfl, S1, M1, hX1⟩
      have HF1 : Hid (Fr (fun _ => False) w w1) := by
        refine HF.out.trans hX1.2.1 ?_
        intro i hi
        right
        have := (hFd.own_ge i hi).1
        omega
      obtain ⟨⟨-, -, -, -, c5, c6⟩, -⟩ := hX1.1.cells
      clear hFd hX1 HF
      cases b with
      | true =>
        go_wp2_with fail
        go_ret2
        exact ⟨HF1.out, _, rfl⟩
      | false =>
        go_wp2_with fail
        go_ret2
        exact ⟨HF1.out, _, rfl⟩

end Go.Proofs.YtnbhnjokpcdnnaaDoor
