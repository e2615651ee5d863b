import Derived.Deep.OwnRows
import Derived.Deep.LoopGhost
import Derived.Test.YtklimomeendajaaGreatDoorMA7
import Derived.Test.YtklimomeendajaaGreatDoorMA8
set_option linter.unusedVariables false
set_option linter.unusedSimpArgs false
/- scope.used: which binders a row of means names. -/
namespace Go.Proofs.YtklimomeendajaaGreatDoor
open Go.RowKit

theorem infoB : (Tryz.prog.info? 4).map (fun i => (i.zero, i.size, i.bytes)) = some (some (.bool false), 1, 1) := by kernel_rfl

theorem made_bools (n : Nat) : madeCells #[Value.bool false] n = ((List.replicate n false).map Value.bool).toArray := by
  apply Array.ext
  · rw [size_madeCells]; simp
  · intro i h1 h2
    simp [madeCells, Nat.mod_one]

theorem bools_set (u : List Bool) (k : Nat) : (u.map Value.bool).toArray.setIfInBounds k (.bool true) = ((u.set k true).map Value.bool).toArray := by
  simp [List.map_set]

theorem kUsed_len {nb : Nat} : ∀ {l : List Int} {u v : List Bool}, kUsed nb l u = some v → v.length = u.length
  | [], u, v, h => by simp [kUsed] at h; rw [h]
  | m :: l, u, v, h => by
    unfold kUsed at h
    split at h
    · exact kUsed_len h
    · split at h
      · have := kUsed_len h; simpa using this
      · cases h

set_option maxHeartbeats 1600000 in
set_option maxRecDepth 100000 in
theorem used_any (ms : List Int) (nb : Nat) (uf : List Bool) (hu : kUsed nb ms (List.replicate nb false) = some uf) (E P : Value) (root : Int) (ba : Option Addr) (bc blk off cap : Nat) (w : World) (hread : ∀ i v, ms[i]? = some v → w.cell? ⟨blk, off + i, none⟩ = some (.int .i64 v)) (hfz : ∀ i, w.frozen? ⟨blk, i, none⟩ = false) (hblk : blk < w.heap.size) (hnb : nb ≤ 200000) (hml : ms.length ≤ 200000) :
    Calls Tryz.prog 76 #[.agg #[E, P, .int .i64 root, .slice ba nb bc], .slice (some ⟨blk, off, none⟩) ms.length cap] w fun e w' => Fr (fun _ => False) w w' ∧ ∃ g, w.heap.size ≤ g ∧ e = .returned (.slice (some ⟨g, 0, none⟩) nb nb) ∧ w'.heap[g]? = some (.cells (uf.map .bool).toArray 4 (0, 0)) := by
  have hmk := run_make_row' (P := Tryz.prog) 163 4 (.bool false) 1 Tryz.underlying163 infoB rfl .i64 .i64 nb (by omega) (by omega)
  have HU : Hid (kUsed nb ms (List.replicate nb false) = some uf) := hu
  have HR : Hid (∀ i v, ms[i]? = some v → w.cell? ⟨blk, off + i, none⟩ = some (.int .i64 v)) := hread
  have HZ : Hid (∀ i, w.frozen? ⟨blk, i, none⟩ = false) := hfz
  clear hu hread hfz
  go_enter Tryz.func76, Tryz.ntmps76
  go_wp2_with fail
  obtain ⟨WF, hWF⟩ : ∃ WF, WF = (w.alloc (.cells #[E, P, .int .i64 root, .slice ba nb bc] 74)).alloc (.cells (madeCells #[.bool false] nb) 4) := ⟨_, rfl⟩
  have HW : Hid (WF.heap[w.heap.size + 1]? = some (.cells ((List.replicate nb false).map Value.bool).toArray 4 (0, 0)) ∧ Fr (fun _ => False) w WF) := by
    rw [hWF]
    refine ⟨?_, ((Fr.refl _ w).alloc _).alloc _⟩
    have := blk_new (w.alloc (.cells #[E, P, .int .i64 root, .slice ba nb bc] 74)) (.cells (madeCells #[.bool false] nb) 4)
    rw [made_bools] at this
    rw [made_bools]
    simpa using this
  rw [← hWF]
  obtain ⟨g, hg⟩ : ∃ g, g = w.heap.size + 1 := ⟨_, rfl⟩
  rw [← hg] at HW
  try rw [← hg]
  have HG : Hid (g = w.heap.size + 1) := hg
  clear hWF hmk hg
  go_loopg [6] ms.length (fun k iv wr => ∃ (j : Nat) (u : List Bool), iv = .int .i64 j ∧ j ≤ ms.length ∧ k = ms.length - j ∧ kUsed nb (ms.drop j) u = some uf ∧ u.length = nb ∧ wr.heap[g]? = some (.cells (u.map Value.bool).toArray 4 (0, 0)) ∧ Fr (fun _ => False) w wr)
  case atStart => exact ⟨0, _, rfl, Nat.zero_le _, rfl, HU.out, by simp, HW.out.1, HW.out.2⟩
  case round =>
    obtain ⟨j, u, rfl, hj, hk, hu, hul, hb, hF⟩ := hrel
    have HM : Hid (gk = ms.length - j) := hk
    have HL : Hid (u.length = nb) := hul
    have HB : Hid (wr.heap[g]? = some (.cells (u.map Value.bool).toArray 4 (0, 0))) := hb
    have HF : Hid (Fr (fun _ => False) w wr) := hF
    have hgl := blk_lt hb
    clear hk hul hb
    by_cases hjl : j < ms.length
    · obtain ⟨m, hm⟩ : ∃ m, ms[j]? = some m := ⟨_, List.getElem?_eq_getElem hjl⟩
      have hdrop : ms.drop j = m :: ms.drop (j + 1) := by
        rw [List.drop_eq_getElem_cons hjl]
        rw [List.getElem?_eq_getElem hjl] at hm
        injection hm with hm
        rw [hm]
      rw [hdrop] at hu
      unfold kUsed at hu
      have c0 : wr.cell? ⟨blk, off + j, none⟩ = some (.int .i64 m) := (World.cell?_of_block (w := w) (a := ⟨blk, off + j, none⟩) (hF.block _ hblk id)).trans (HR.out j m hm)
      have hbl : blk < wr.heap.size := Nat.lt_of_lt_of_le hblk hF.size
      clear hm hdrop hF
      by_cases hm1 : m = -1
      · subst hm1
        rw [if_pos rfl] at hu
        have HU2 : Hid (kUsed nb (ms.drop (j + 1)) u = some uf) := hu
        clear hu
        go_wp2_with fail
        go_roundg (ms.length - (j + 1))
        case measure => rw [HM.out]; omega
        case rel => exact ⟨j + 1, u, by go_num, by omega, rfl, HU2.out, HL.out, HB.out, HF.out⟩
      · rw [if_neg hm1] at hu
        split at hu
        case isFalse => cases hu
        case isTrue hmr =>
          obtain ⟨k, rfl⟩ : ∃ k : Nat, m = k := ⟨m.toNat, by omega⟩
          simp only [Int.toNat_natCast] at hu hmr
          have hkn : k < nb := hmr.2
          have HU2 : Hid (kUsed nb (ms.drop (j + 1)) (u.set k true) = some uf) := hu
          have hne1 : ¬ ((k : Int) = -1) := by omega
          have ck : wr.cell? ⟨g, k, none⟩ = some (.bool (u[k]'(by rw [HL.out]; exact hkn))) := by
            have := HL.out
            simp [World.cell?, HB.out, this, hkn]
          have fk : wr.frozen? ⟨g, k, none⟩ = false := by simp [World.frozen?, HB.out]
          have HB2 : Hid ((wr.setCell ⟨g, k, none⟩ (.bool true)).heap[g]? = some (.cells ((u.set k true).map Value.bool).toArray 4 (0, 0))) := blk_set HB.out (bools_set u k)
          have HF2 : Hid (Fr (fun _ => False) w (wr.setCell ⟨g, k, none⟩ (.bool true))) := by
            show Fr _ _ _
            exact HF.out.setCell (.inr (by show w.heap.size ≤ g; rw [HG.out]; omega)) _
          clear hu hmr hm1
          go_wp2_with fail
          go_roundg (ms.length - (j + 1))
          case measure => rw [HM.out]; omega
          case rel => exact ⟨j + 1, u.set k true, by go_num, by omega, rfl, HU2.out, by rw [List.length_set]; exact HL.out, HB2.out, HF2.out⟩
    · obtain rfl : j = ms.length := by omega
      rw [List.drop_length] at hu
      simp only [kUsed, Option.some.injEq] at hu
      subst hu
      clear hF
      go_wp2_with fail
      go_ret
      exact ⟨HF.out, g, by rw [HG.out]; omega, rfl, HB.out⟩
end Go.Proofs.YtklimomeendajaaGreatDoor

/- The rows of what is kept, as they lie. -/
namespace Go.Proofs.YtklimomeendajaaGreatDoor
open Go.RowKit

/-- One row: nil for none, else a block of its own (at or above lo). -/
def K1At (w : World) (lo : Nat) (u : List Bool) (v : Value) : Prop :=
  (u = [] ∧ v = .slice none 0 0) ∨ ∃ g, lo ≤ g ∧ v = .slice (some ⟨g, 0, none⟩) u.length u.length ∧ w.heap[g]? = some (.cells (u.map Value.bool).toArray 4 (0, 0))

def KAt (w : World) (lo : Nat) : List (List Bool) → List Value → Prop
  | [], c => c = []
  | u :: l, c => ∃ v c', c = v :: c' ∧ K1At w lo u v ∧ KAt w lo l c'

theorem K1At.keep {w w' : World} {lo : Nat} {u : List Bool} {v : Value} (h : K1At w lo u v) (hb : ∀ b, v.ownBlock = some b → w'.heap[b]? = w.heap[b]?) : K1At w' lo u v := by
  rcases h with h | ⟨g, h1, h2, h3⟩
  · exact .inl h
  · exact .inr ⟨g, h1, h2, (hb g (by rw [h2]; rfl)).trans h3⟩

theorem KAt.keep {w w' : World} {lo : Nat} : ∀ {l : List (List Bool)} {c : List Value}, KAt w lo l c → (∀ v b, v ∈ c → v.ownBlock = some b → w'.heap[b]? = w.heap[b]?) → KAt w' lo l c
  | [], _, h, _ => h
  | _ :: _, _, ⟨v, c', hc, h1, h2⟩, hb => ⟨v, c', hc, h1.keep fun b hh => hb v b (by rw [hc]; exact List.mem_cons_self) hh, KAt.keep h2 fun v b hv hh => hb v b (by rw [hc]; exact List.mem_cons_of_mem _ hv) hh⟩

theorem KAt.len {w : World} {lo : Nat} : ∀ {l : List (List Bool)} {c : List Value}, KAt w lo l c → c.length = l.length
  | [], _, h => by cases h; rfl
  | _ :: _, _, ⟨v, c', hc, _, h2⟩ => by rw [hc]; simp [KAt.len h2]

theorem KAt.snoc {w : World} {lo : Nat} {u : List Bool} {v : Value} (hv : K1At w lo u v) : ∀ {l : List (List Bool)} {c : List Value}, KAt w lo l c → KAt w lo (l ++ [u]) (c ++ [v])
  | [], _, h => by cases h; exact ⟨v, [], rfl, hv, rfl⟩
  | _ :: _, _, ⟨x, c', hc, h1, h2⟩ => ⟨x, c' ++ [v], by rw [hc]; rfl, h1, KAt.snoc hv h2⟩

theorem KAt.lt {w : World} {lo : Nat} : ∀ {l : List (List Bool)} {c : List Value}, KAt w lo l c → ∀ v b, v ∈ c → v.ownBlock = some b → lo ≤ b ∧ b < w.heap.size
  | [], _, h, v, b, hv, _ => by cases h; cases hv
  | _ :: _, _, ⟨x, c', hc, h1, h2⟩, v, b, hv, hb => by
    rw [hc] at hv
    rcases List.mem_cons.1 hv with rfl | hv
    · rcases h1 with ⟨_, h⟩ | ⟨g, h1, h, h3⟩
      · rw [h] at hb; cases hb
      · rw [h] at hb; cases hb; exact ⟨h1, blk_lt h3⟩
    · exact KAt.lt h2 v b hv hb
end Go.Proofs.YtklimomeendajaaGreatDoor

/- scope.Kept: how its two rows lie while it runs. -/
namespace Go.Proofs.YtklimomeendajaaGreatDoor
open Go.RowKit

theorem infoBs : (Tryz.prog.info? 163).map (fun i => (i.zero, i.size, i.bytes)) = some (some (.slice none 0 0), 1, 24) := by kernel_rfl
theorem slBs : SlT Tryz.prog 81 163 (.slice none 0 0) 1 24 := ⟨Tryz.underlying81, info_parts infoBs, rfl, by decide⟩

/-- The tree's block, the starts and the rows of what is kept. -/
structure Kc (w0 w : World) (tb : Obj) (st : List Int) (ks : List (List Bool)) (sv kv : Value) (cK : List Value) : Prop where
  fr : Fr (fun _ => False) w0 w
  tb : w.heap[w0.heap.size]? = some tb
  s : w.ownsRow (w0.heap.size + 1) 3 1 sv st.length (st.map (.int .i64))
  k : w.ownsRow (w0.heap.size + 1) 163 1 kv ks.length cK
  at_ : KAt w (w0.heap.size + 1) ks cK
  sk : ∀ b, sv.ownBlock = some b → kv.ownBlock ≠ some b
  sc : ∀ b, sv.ownBlock = some b → ∀ v ∈ cK, v.ownBlock ≠ some b
  kc : ∀ b, kv.ownBlock = some b → ∀ v ∈ cK, v.ownBlock ≠ some b

section
variable {w0 w w1 w2 : World} {tb : Obj} {st : List Int} {ks : List (List Bool)} {sv kv v' : Value} {cK : List Value}

theorem Kc.go (h : Kc w0 w tb st ks sv kv cK) (hF : Fr (fun _ => False) w w1) : Kc w0 w1 tb st ks sv kv cK :=
  ⟨h.fr.trans hF (fun _ h => h.elim), (hF.block _ (blk_lt h.tb) id).trans h.tb, ownsRow_block h.s fun b hb => hF.block b (h.s.lt b hb).2 id, ownsRow_block h.k fun b hb => hF.block b (h.k.lt b hb).2 id, h.at_.keep fun v b hv hb => hF.block b (h.at_.lt v b hv hb).2 id, h.sk, h.sc, h.kc⟩

theorem Kc.starts {a : Int} (h : Kc w0 w tb st ks sv kv cK) (hg : w.grownBy w2 sv.ownBlock) (hr : w2.ownsRow (w0.heap.size + 1) 3 1 v' (st ++ [a]).length ((st ++ [a]).map (.int .i64))) (hv : v'.ownBlock = sv.ownBlock ∨ v'.ownBlock = some w.heap.size) : Kc w0 w2 tb (st ++ [a]) ks v' kv cK := by
  have hF : Fr (fun b => sv.ownBlock = some b) w w2 := (Fr.refl _ w).grown hg fun k hk => .inl hk
  have hn : ∀ b, v'.ownBlock = some b → sv.ownBlock = some b ∨ w.heap.size ≤ b := fun b hb => by
    rcases hv with h2 | h2
    · exact .inl (h2 ▸ hb)
    · rw [h2] at hb; cases hb; exact .inr (Nat.le_refl _)
  refine ⟨h.fr.trans hF (fun b hb => by have := (h.s.lt b hb).1; right; omega), (hF.block _ (blk_lt h.tb) (fun hb => by have := (h.s.lt _ hb).1; omega)).trans h.tb, hr, ownsRow_block h.k fun b hb => hF.block b (h.k.lt b hb).2 (fun e => h.sk b e hb), h.at_.keep fun v b hv hb => hF.block b (h.at_.lt v b hv hb).2 (fun e => h.sc b e v hv hb), ?_, ?_, h.kc⟩
  · intro b hb hk
    rcases hn b hb with h2 | h2
    · exact h.sk b h2 hk
    · have := (h.k.lt b hk).2; omega
  · intro b hb v hv hc
    rcases hn b hb with h2 | h2
    · exact h.sc b h2 v hv hc
    · have := (h.at_.lt v b hv hc).2; omega

theorem Kc.kepts {u : List Bool} {x : Value} (h : Kc w0 w tb st ks sv kv cK) (hx : K1At w (w0.heap.size + 1) u x) (hxs : ∀ b, x.ownBlock = some b → sv.ownBlock ≠ some b ∧ kv.ownBlock ≠ some b) (hg : w.grownBy w2 kv.ownBlock) (hr : w2.ownsRow (w0.heap.size + 1) 163 1 v' (ks ++ [u]).length (cK ++ [x])) (hv : v'.ownBlock = kv.ownBlock ∨ v'.ownBlock = some w.heap.size) : Kc w0 w2 tb st (ks ++ [u]) sv v' (cK ++ [x]) := by
  have hF : Fr (fun b => kv.ownBlock = some b) w w2 := (Fr.refl _ w).grown hg fun k hk => .inl hk
  have hn : ∀ b, v'.ownBlock = some b → kv.ownBlock = some b ∨ w.heap.size ≤ b := fun b hb => by
    rcases hv with h2 | h2
    · exact .inl (h2 ▸ hb)
    · rw [h2] at hb; cases hb; exact .inr (Nat.le_refl _)
  have hA := h.at_.snoc hx
  refine ⟨h.fr.trans hF (fun b hb => by have := (h.k.lt b hb).1; right; omega), (hF.block _ (blk_lt h.tb) (fun hb => by have := (h.k.lt _ hb).1; omega)).trans h.tb, ownsRow_block h.s fun b hb => hF.block b (h.s.lt b hb).2 (fun e => h.sk b hb e), hr, hA.keep fun v b hv hb => hF.block b (hA.lt v b hv hb).2 (fun e => ?_), ?_, ?_, ?_⟩
  · rcases List.mem_append.1 hv with hv | hv
    · exact h.kc b e v hv hb
    · rw [List.mem_singleton.1 hv] at hb; exact (hxs b hb).2 e
  · intro b hb hk
    rcases hn b hk with h2 | h2
    · exact h.sk b hb h2
    · have := (h.s.lt b hb).2; omega
  · intro b hb v hv hc
    rcases List.mem_append.1 hv with hv | hv
    · exact h.sc b hb v hv hc
    · rw [List.mem_singleton.1 hv] at hc; exact (hxs b hc).1 hb
  · intro b hb v hv hc
    rcases hn b hb with h2 | h2
    · rcases List.mem_append.1 hv with hv | hv
      · exact h.kc b h2 v hv hc
      · rw [List.mem_singleton.1 hv] at hc; exact (hxs b hc).2 h2
    · have := (hA.lt v b hv hc).2; omega
end
end Go.Proofs.YtklimomeendajaaGreatDoor
