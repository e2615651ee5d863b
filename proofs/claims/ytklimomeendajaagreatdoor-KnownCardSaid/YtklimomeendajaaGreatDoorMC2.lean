import Derived.Test.YtklimomeendajaaGreatDoorMA8
import Derived.Test.YtklimomeendajaaGreatDoorMB7
import Derived.Test.YtklimomeendajaaGreatDoorMB8
import Derived.Test.YtklimomeendajaaGreatDoorMC1
set_option linter.unusedVariables false
set_option linter.unusedSimpArgs false
/- Compile's twin, taken apart. -/
namespace Go.Proofs.YtklimomeendajaaGreatDoor

theorem yComp_cases {n : Nat} {t : List UInt8} {k : Int} {o : List UInt8} (h : yComp n t = some (k, o)) :
    (240 < t.length ∧ k = 1 ∧ o = []) ∨ (t.length ≤ 240 ∧ ∃ x, sSplit t n ⟨0, [], []⟩ = some x ∧ ((x.2 = false ∧ k = 2 ∧ o = []) ∨ (x.2 = true ∧ ∃ r, rdr x.1 n 0 rs0 = some r ∧ ((rGood x.1 r.1 = false ∧ k = 3 ∧ o = []) ∨
      (rGood x.1 r.1 = true ∧ r.1.exps.length ≤ 200000 ∧ r.1.bnds.length ≤ 200000 ∧ ∃ g, gExp r.1 n r.2 [] = some g ∧ ((g.1 = true ∧ k = 4 ∧ o = []) ∨
        (g.1 = false ∧ ∃ o', yFind r.1 (mOf r.1 g) n r.2 = some o' ∧ ((o' = none ∧ k = 5 ∧ o = []) ∨ (o' = some o ∧ k = 0 ∧ ∃ kp, kKept r.1.bnds.length (mOf r.1 g) r.1.exps [] [] = some kp))))))))) := by
  unfold yComp at h
  obtain ⟨e, he, h⟩ := Option.bind_eq_some_iff.1 h
  unfold cErr at he
  by_cases hl : 240 < t.length
  · rw [if_pos hl] at he
    injection he with he
    subst he
    rw [if_pos (by decide)] at h
    injection h with h
    injection h with h1 h2
    exact .inl ⟨hl, h1.symm, h2.symm⟩
  rw [if_neg hl] at he
  refine .inr ⟨by omega, ?_⟩
  obtain ⟨x, hx, he⟩ := Option.bind_eq_some_iff.1 he
  rw [hx] at h
  refine ⟨x, hx, ?_⟩
  cases hx2 : x.2 with
  | false =>
    rw [if_neg (by simp [hx2])] at he
    injection he with he
    subst he
    rw [if_pos (by decide)] at h
    injection h with h
    injection h with h1 h2
    exact .inl ⟨rfl, h1.symm, h2.symm⟩
  | true =>
    rw [if_pos hx2] at he
    unfold cRead at he
    obtain ⟨r, hr, he⟩ := Option.bind_eq_some_iff.1 he
    simp only [Option.bind_some, hr] at h
    refine .inr ⟨rfl, r, hr, ?_⟩
    cases hg : rGood x.1 r.1 with
    | false =>
      rw [if_neg (by simp [hg])] at he
      injection he with he
      subst he
      rw [if_pos (by decide)] at h
      injection h with h
      injection h with h1 h2
      exact .inl ⟨rfl, h1.symm, h2.symm⟩
    | true =>
      rw [if_pos hg] at he
      unfold cScope at he
      split at he
      case isFalse => cases he
      case isTrue hb =>
      obtain ⟨b, hb', he⟩ := Option.bind_eq_some_iff.1 he
      obtain ⟨l, hl'⟩ := g_exp r.1 n r.2 [] b hb'
      refine .inr ⟨rfl, hb.1, hb.2, (b, l), hl', ?_⟩
      injection he with he
      rw [hl'] at h
      cases b with
      | true =>
        simp only [if_true] at he
        subst he
        rw [if_pos (by decide)] at h
        injection h with h
        injection h with h1 h2
        exact .inl ⟨rfl, h1.symm, h2.symm⟩
      | false =>
        simp only [Bool.false_eq_true, if_false] at he
        subst he
        rw [if_neg (by decide)] at h
        simp only [Option.bind_some] at h
        obtain ⟨o', ho', h⟩ := Option.bind_eq_some_iff.1 h
        refine .inr ⟨rfl, o', ho', ?_⟩
        cases o' with
        | none =>
          injection h with h
          injection h with h1 h2
          exact .inl ⟨rfl, h1.symm, h2.symm⟩
        | some o' =>
          obtain ⟨kp, hkp, h⟩ := Option.bind_eq_some_iff.1 h
          injection h with h
          injection h with h1 h2
          exact .inr ⟨by rw [h2], h1.symm, kp, hkp⟩
end Go.Proofs.YtklimomeendajaaGreatDoor

/- Compile. -/
namespace Go.Proofs.YtklimomeendajaaGreatDoor
open Go.RowKit

/-- What a program is made of: the tree, what its names mean, what its functions keep. -/
structure CX where
  t : RS
  root : Int
  ms : List Int
  kp : List (List Bool)

/-- How the code lies (block cb): nothing of it is written again. -/
structure CdAt (w : World) (cb : Nat) (c : CX) (E P B MV KV : Value) (cE cK : List Value) : Prop where
  blk : w.heap[cb]? = some (.cells #[E, P, .int .i64 c.root, B, MV, KV] 84 (0, 0))
  tr : Tr w c.t E P B cE
  m : w.ownsRow 0 3 1 MV c.ms.length (c.ms.map (.int .i64))
  k : w.ownsRow 0 163 1 KV c.kp.length cK
  kAt : KAt w 0 c.kp cK
  ne : c.t.exps.length ≤ 200000
  nb : c.t.bnds.length ≤ 200000

/-- A program: its type's text, and its code. -/
def PgAt (w : World) (pb : Nat) (c : CX) (o : List UInt8) : Prop :=
  ∃ cb E P B MV KV cE cK, w.heap[pb]? = some (.cells #[.string (bs o), .pointer (some ⟨cb, 0, none⟩)] 87 (0, 0)) ∧ CdAt w cb c E P B MV KV cE cK

/-- The twin's facts on a program. -/
def Cmp (n : Nat) (t : List UInt8) (c : CX) (o : List UInt8) : Prop :=
  ∃ x r g, sSplit t n ⟨0, [], []⟩ = some x ∧ rdr x.1 n 0 rs0 = some r ∧ gExp r.1 n r.2 [] = some g ∧ c.t = r.1 ∧ c.root = r.2 ∧ c.ms = mOf r.1 g ∧ yFind c.t c.ms n c.root = some (some o) ∧ kKept c.t.bnds.length c.ms c.t.exps [] [] = some c.kp

theorem KAt.base {w : World} {lo lo' : Nat} (hl : lo' ≤ lo) : ∀ {l : List (List Bool)} {c : List Value}, KAt w lo l c → KAt w lo' l c
  | [], _, h => h
  | _ :: _, _, ⟨v, c', hc, h1, h2⟩ => ⟨v, c', hc, by
      rcases h1 with h | ⟨g, h1, h2, h3⟩
      · exact .inl h
      · exact .inr ⟨g, Nat.le_trans hl h1, h2, h3⟩, KAt.base hl h2⟩

set_option maxHeartbeats 3200000 in
set_option maxRecDepth 100000 in
theorem compile_any (n : Nat) (t : List UInt8) (k : Int) (o : List UInt8) (hk : yComp n t = some (k, o)) (w : World) (hlen : t.length ≤ 9223372036854775807) (hkw : KW w) :
    Calls Tryz.prog 13 #[.string (bs t)] w fun e w' => Fr (fun _ => False) w w' ∧ ∃ pv, e = .returned (.tuple #[pv, .int .i64 k]) ∧ ((k ≠ 0 ∧ pv = .pointer none) ∨ (k = 0 ∧ ∃ pb c, pv = .pointer (some ⟨pb, 0, none⟩) ∧ w.heap.size ≤ pb ∧ PgAt w' pb c o ∧ Cmp n t c o)) := by
  rcases yComp_cases hk with ⟨hl, rfl, -⟩ | ⟨hl, x, hx, hk⟩
  · clear hk hkw
    go_enter Tryz.func13, Tryz.ntmps13
    go_wp2_with fail
    go_ret2
    exact ⟨Fr.refl _ _, _, rfl, .inl ⟨by decide, rfl⟩⟩
  have HX : Hid (sSplit t n ⟨0, [], []⟩ = some x) := hx
  have HKW : Hid (KW w) := hkw
  clear hx hkw
  rcases hk with ⟨hx2, rfl, -⟩ | ⟨hx2, r, hr, hk⟩
  · go_enter Tryz.func13, Tryz.ntmps13
    go_wp2_with fail
    refine (split_any t n x HX.out _ hl HKW.out).mono ?_
    rintro e w1 ⟨hF1, -, h1⟩
    have HF1 : Hid (Fr (fun _ => False) w w1) := hF1
    rcases h1 with ⟨-, rfl⟩ | ⟨h1, -⟩
    · clear hF1 HX HKW
      go_wp2_with fail
      go_ret2
      exact ⟨HF1.out, _, rfl, .inl ⟨by decide, rfl⟩⟩
    · rw [hx2] at h1; cases h1
  have HR : Hid (rdr x.1 n 0 rs0 = some r) := hr
  have HKC : Hid _ := hk
  clear hr hk
  go_enter Tryz.func13, Tryz.ntmps13
  go_wp2_with fail
  refine (split_any t n x HX.out _ hl HKW.out).mono ?_
  rintro e w1 ⟨hF1, hx240, h1⟩
  rcases h1 with ⟨h1, -⟩ | ⟨-, L, rfl, hL⟩
  · rw [h1] at hx2; cases hx2
  have HL : Hid (w1.ownsRow 0 205 2 L x.1.length (wordCells x.1)) := hL
  have HF1 : Hid (Fr (fun _ => False) w w1) := hF1
  clear hL hF1 HKW
  go_wp2_with fail
  refine (read_any x.1 n r HR.out L _ HL.out hx240).mono ?_
  rintro e w2 ⟨hF2, h2⟩
  have HF2 : Hid (Fr (fun _ => False) w w2) := HF1.out.trans hF2 (fun _ h => h.elim)
  clear hF2 HF1 HL
  rcases HKC.out with ⟨hg, rfl, -⟩ | ⟨hg, hne, hnb, g, hgx, hk⟩
  · rcases h2 with ⟨-, rfl⟩ | ⟨h2, -⟩
    · clear HKC
      go_wp2_with fail
      go_ret2
      exact ⟨HF2.out.alloc _, _, rfl, .inl ⟨by decide, rfl⟩⟩
    · rw [h2] at hg; cases hg
  rcases h2 with ⟨h2, -⟩ | ⟨-, E, P, B, cE, rfl, hT⟩
  · rw [h2] at hg; cases hg
  clear HKC
  have HKC : Hid _ := hk
  have HG : Hid (gExp r.1 n r.2 [] = some g) := hgx
  obtain ⟨rt, root⟩ := r
  simp only at hne hnb
  obtain ⟨ea, ec, rfl⟩ := ownsRow_len hT.e
  obtain ⟨pa, pc, rfl⟩ := ownsRow_len hT.p
  obtain ⟨ba, bc, rfl⟩ := ownsRow_len hT.b
  have HT : Hid (Tr w2 rt (.slice ea rt.exps.length ec) (.slice pa rt.pats.length pc) (.slice ba rt.bnds.length bc) cE) := hT
  clear hT hk hgx
  go_wp2_with fail
  have hB2 := blk_new w2 (.cells #[.slice ea rt.exps.length ec, .slice pa rt.pats.length pc, .int .i64 root, .slice ba rt.bnds.length bc] 74)
  generalize hW2 : w2.alloc (.cells #[.slice ea rt.exps.length ec, .slice pa rt.pats.length pc, .int .i64 root, .slice ba rt.bnds.length bc] 74) = W2 at hB2 ⊢
  have hFW : Fr (fun _ => False) w2 W2 := by rw [← hW2]; exact (Fr.refl _ w2).alloc _
  have HTW : Hid (Tr W2 rt (.slice ea rt.exps.length ec) (.slice pa rt.pats.length pc) (.slice ba rt.bnds.length bc) cE) := HT.out.keep fun b hb => hFW.block b (HT.out.lt b hb) id
  have HFW2 : Hid (Fr (fun _ => False) w W2) := HF2.out.trans hFW (fun _ h => h.elim)
  have HQ : Hid (w.heap.size ≤ w2.heap.size) := HF2.out.size
  clear hW2 hFW HT HF2
  generalize w2.heap.size = q at hB2 HQ ⊢
  have HB2 : Hid (W2.heap[q]? = some (.cells #[.slice ea rt.exps.length ec, .slice pa rt.pats.length pc, .int .i64 root, .slice ba rt.bnds.length bc] 74 (0, 0))) := hB2
  clear hB2
  refine (find_any rt n root g HG.out _ _ _ cE _ HTW.out hne hnb).mono ?_
  rintro e w3 ⟨hF3, v, rfl, hv⟩
  have HF3 : Hid (Fr (fun _ => False) w w3) := HFW2.out.trans hF3 (fun _ h => h.elim)
  have hB3 : w3.heap[q]? = some (.cells #[.slice ea rt.exps.length ec, .slice pa rt.pats.length pc, .int .i64 root, .slice ba rt.bnds.length bc] 74 (0, 0)) := (hF3.block q (blk_lt HB2.out) id).trans HB2.out
  have HB3 : Hid (w3.heap[q]? = some (.cells #[.slice ea rt.exps.length ec, .slice pa rt.pats.length pc, .int .i64 root, .slice ba rt.bnds.length bc] 74 (0, 0))) := hB3
  have HT3 : Hid (Tr w3 rt (.slice ea rt.exps.length ec) (.slice pa rt.pats.length pc) (.slice ba rt.bnds.length bc) cE) := HTW.out.keep fun b hb => hF3.block b (HTW.out.lt b hb) id
  have HS3 : Hid (w.heap.size ≤ W2.heap.size) := HFW2.out.size
  obtain ⟨⟨y0, y1, y2, y3⟩, -⟩ := cells4 hB3
  have yq := blk_lt hB3
  clear hF3 hB3 HTW HFW2 HB2
  rcases HKC.out with ⟨hg1, rfl, -⟩ | ⟨hg1, o', ho', hk⟩
  · rw [hg1]
    clear HKC hv
    go_wp2_with fail
    go_ret2
    exact ⟨HF3.out, _, rfl, .inl ⟨by decide, rfl⟩⟩
  clear HKC
  have HKC : Hid _ := hk
  have HO : Hid (yFind rt (mOf rt g) n root = some o') := ho'
  have hv3 : w3.ownsRow 0 3 1 v (mOf rt g).length ((mOf rt g).map (.int .i64)) := by
    have h1 := hv hg1
    have h2 : (mOf rt g).length = rt.exps.length := by unfold mOf; rw [apE_len]; simp
    rw [h2]
    exact ownsRow_base h1 fun k hk => Nat.zero_le _
  have hML : (mOf rt g).length = rt.exps.length := by unfold mOf; rw [apE_len]; simp
  have HV3 : Hid (w3.ownsRow 0 3 1 v (mOf rt g).length ((mOf rt g).map (.int .i64))) := hv3
  have HML : Hid ((mOf rt g).length = rt.exps.length) := hML
  obtain ⟨va, vc, rfl⟩ := ownsRow_len hv3
  rw [hg1]
  clear hv hv3 hML hk ho' hg1
  go_wp2_with fail
  refine (tfind_any rt (mOf rt g) n root o' HO.out _ _ _ _ cE _ HT3.out HV3.out hne hnb).mono ?_
  rintro e w4 ⟨hF4, rfl⟩
  have HF4 : Hid (Fr (fun _ => False) w w4) := HF3.out.trans hF4 (fun _ h => h.elim)
  have hB4 : w4.heap[q]? = some (.cells #[.slice ea rt.exps.length ec, .slice pa rt.pats.length pc, .int .i64 root, .slice ba rt.bnds.length bc] 74 (0, 0)) := (hF4.block q (blk_lt HB3.out) id).trans HB3.out
  have HB4 : Hid (w4.heap[q]? = some (.cells #[.slice ea rt.exps.length ec, .slice pa rt.pats.length pc, .int .i64 root, .slice ba rt.bnds.length bc] 74 (0, 0))) := hB4
  have HT4 : Hid (Tr w4 rt (.slice ea rt.exps.length ec) (.slice pa rt.pats.length pc) (.slice ba rt.bnds.length bc) cE) := HT3.out.keep fun b hb => hF4.block b (HT3.out.lt b hb) id
  have HV4 : Hid (w4.ownsRow 0 3 1 (.slice va (mOf rt g).length vc) (mOf rt g).length ((mOf rt g).map (.int .i64))) := rowKeep hF4 HV3.out (fun _ _ h => h)
  clear y0 y1 y2 y3 yq
  obtain ⟨⟨y0, y1, y2, y3⟩, -⟩ := cells4 hB4
  have yq := blk_lt hB4
  clear hF4 hB4 HT3 HV3 HB3 HF3
  rcases HKC.out with ⟨rfl, rfl, -⟩ | ⟨rfl, rfl, kp, hkp⟩
  · clear HKC
    simp only [Option.getD_none, Option.isSome_none]
    go_wp2_with fail
    go_ret2
    exact ⟨HF4.out, _, rfl, .inl ⟨by decide, rfl⟩⟩
  clear HKC
  have HKP : Hid (kKept rt.bnds.length (mOf rt g) rt.exps [] [] = some kp) := hkp
  clear hkp
  simp only [Option.getD_some, Option.isSome_some]
  go_wp2_with fail
  refine (kept_any rt (mOf rt g) kp HKP.out root _ _ _ _ cE _ HT4.out HV4.out hne hnb HML.out).mono ?_
  rintro e w5 ⟨hF5, kv, cK, rfl, hK5, hKA5⟩
  have HF5 : Hid (Fr (fun _ => False) w w5) := HF4.out.trans hF5 (fun _ h => h.elim)
  have hB5 : w5.heap[q]? = some (.cells #[.slice ea rt.exps.length ec, .slice pa rt.pats.length pc, .int .i64 root, .slice ba rt.bnds.length bc] 74 (0, 0)) := (hF5.block q (blk_lt HB4.out) id).trans HB4.out
  have HT5 : Hid (Tr w5 rt (.slice ea rt.exps.length ec) (.slice pa rt.pats.length pc) (.slice ba rt.bnds.length bc) cE) := HT4.out.keep fun b hb => hF5.block b (HT4.out.lt b hb) id
  have HV5 : Hid (w5.ownsRow 0 3 1 (.slice va (mOf rt g).length vc) (mOf rt g).length ((mOf rt g).map (.int .i64))) := rowKeep hF5 HV4.out (fun _ _ h => h)
  obtain ⟨ka, kc, rfl⟩ := ownsRow_len hK5
  have HK5 : Hid (w5.ownsRow 0 163 1 (.slice ka kp.length kc) kp.length cK) := ownsRow_base hK5 fun k hk => Nat.zero_le _
  have HKA5 : Hid (KAt w5 0 kp cK) := hKA5.base (Nat.zero_le _)
  clear y0 y1 y2 y3 yq
  obtain ⟨⟨y0, y1, y2, y3⟩, -⟩ := cells4 hB5
  have yq := blk_lt hB5
  clear hF5 hB5 hK5 hKA5 HT4 HV4 HB4 HF4
  go_wp2_with fail
  go_ret2
  have hA : Fr (fun _ => False) w5 ((w5.alloc (.cells #[.slice ea rt.exps.length ec, .slice pa rt.pats.length pc, .int .i64 root, .slice ba rt.bnds.length bc, .slice va (mOf rt g).length vc, .slice ka kp.length kc] 84)).alloc (.cells #[.string (bz o), .pointer (some ⟨w5.heap.size, 0, none⟩)] 87)) := ((Fr.refl _ w5).alloc _).alloc _
  have h1 := blk_new w5 (.cells #[.slice ea rt.exps.length ec, .slice pa rt.pats.length pc, .int .i64 root, .slice ba rt.bnds.length bc, .slice va (mOf rt g).length vc, .slice ka kp.length kc] 84)
  have h2 := blk_new (w5.alloc (.cells #[.slice ea rt.exps.length ec, .slice pa rt.pats.length pc, .int .i64 root, .slice ba rt.bnds.length bc, .slice va (mOf rt g).length vc, .slice ka kp.length kc] 84)) (.cells #[.string (bz o), .pointer (some ⟨w5.heap.size, 0, none⟩)] 87)
  refine ⟨HF5.out.trans hA (fun _ h => h.elim), _, rfl, w5.heap.size + 1, rfl, by have := HF5.out.size; omega, ⟨rt, root, mOf rt g, kp⟩, ⟨w5.heap.size, .slice ea rt.exps.length ec, .slice pa rt.pats.length pc, .slice ba rt.bnds.length bc, .slice va (mOf rt g).length vc, .slice ka kp.length kc, cE, cK, ?_, ⟨?_, ?_, ?_, ?_, ?_, hne, hnb⟩⟩, x, (rt, root), g, HX.out, HR.out, HG.out, rfl, rfl, rfl, HO.out, HKP.out⟩
  · simpa using h2
  · exact (Below.heap_alloc _ _ _ (by simp)).trans h1
  · exact HT5.out.keep fun b hb => hA.block b (HT5.out.lt b hb) id
  · exact rowKeep hA HV5.out (fun _ _ h => h)
  · exact rowKeep hA HK5.out (fun _ _ h => h)
  · exact HKA5.out.keep fun v b hv hb => hA.block b (HKA5.out.lt v b hv hb).2 id
end Go.Proofs.YtklimomeendajaaGreatDoor
