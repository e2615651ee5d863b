import Derived.Test.YtnbhnjokpcdnnaaDoorMB3
import Derived.Test.YtnbhnjokpcdnnaaDoorMA7
set_option linter.unusedVariables false
set_option linter.unusedSimpArgs false
namespace Go.Proofs.YtnbhnjokpcdnnaaDoor
open Go.RowKit

set_option maxHeartbeats 3200000 in
set_option maxRecDepth 100000 in
theorem compile_any (n : Nat) (t : List UInt8) (k : Int) (hk : cErr n t = some k) (w : World) (hlen : t.length ≤ 9223372036854775807) (hkw : KW w) :
    Calls Tryd.prog 6 #[.string (bs t)] w fun e w' => Fr (fun _ => False) w w' ∧ ∃ pv, e = .returned (.tuple #[pv, .int .i64 k]) ∧ ((k = 0 ∧ ∃ a, pv = .pointer (some a)) ∨ (k ≠ 0 ∧ pv = .pointer none)) := by
  unfold cErr at hk
  split at hk
  · rename_i hl
    have HK : Hid (k = 1) := by show k = 1; simpa using hk.symm
    clear hk hkw
    go_enter Tryd.func6, Tryd.ntmps6
    go_wp2_with fail
    go_ret2
    rw [HK.out]
    exact ⟨Fr.refl _ _, _, rfl, .inr ⟨by decide, rfl⟩⟩
  rename_i hl
  obtain ⟨x, hx, hk⟩ := Option.bind_eq_some_iff.1 hk
  have HX : Hid (sSplit t n ⟨0, [], []⟩ = some x) := hx
  have HKW : Hid (KW w) := hkw
  clear hx hkw
  have hl2 : t.length ≤ 240 := by omega
  split at hk
  · rename_i hx2
    unfold cRead at hk
    obtain ⟨y, hy, hk⟩ := Option.bind_eq_some_iff.1 hk
    have HY : Hid (rdr x.1 n 0 rs0 = some y) := hy
    clear hy
    go_enter Tryd.func6, Tryd.ntmps6
    go_wp2_with fail
    refine (split_any t n x HX.out _ hl2 HKW.out).mono ?_
    rintro e w1 ⟨hF1, hx240, h1⟩
    rcases h1 with ⟨h1, -⟩ | ⟨-, L, rfl, hL⟩
    · rw [h1] at hx2; cases hx2
    have HL : Hid (w1.ownsRow 0 73 2 L x.1.length (wordCells x.1)) := hL
    have HF1 : Hid (Fr (fun _ => False) w w1) := hF1
    clear hL hF1 HX HKW
    go_wp2_with fail
    refine (read_any x.1 n y HY.out L _ HL.out hx240).mono ?_
    rintro e w2 ⟨hF2, h2⟩
    have HF2 : Hid (Fr (fun _ => False) w w2) := HF1.out.trans hF2 (fun _ h => h.elim)
    clear hF2 HF1 HL HY
    split at hk
    · rename_i hg
      rcases h2 with ⟨h2, -⟩ | ⟨-, E, P, B, cE, rfl, hT⟩
      · rw [h2] at hg; cases hg
      unfold cScope at hk
      split at hk
      case isFalse => cases hk
      case isTrue hb =>
      obtain ⟨b, hb', hk⟩ := Option.bind_eq_some_iff.1 hk
      have HB : Hid (fExp y.1 n y.2 [] = some b) := hb'
      have HT : Hid (Tr w2 y.1 E P B cE) := hT
      obtain ⟨ea, ec, rfl⟩ := ownsRow_len hT.e
      obtain ⟨pa, pc, rfl⟩ := ownsRow_len hT.p
      obtain ⟨ba, bc, rfl⟩ := ownsRow_len hT.b
      obtain ⟨hb1, hb2⟩ := hb
      have HK : Hid (k = if b then 4 else 0) := by show k = _; simpa using hk.symm
      clear hb' hT hk
      go_wp2_with fail
      refine (find_any y.1 n y.2 b HB.out _ _ _ cE _ (HT.out.keep fun b' hb' => ?_) hb1 hb2).mono ?_
      · exact Below.heap_alloc _ _ _ (HT.out.lt b' hb')
      rintro e w3 ⟨hF3, v, rfl⟩
      have HF3 : Hid (Fr (fun _ => False) w w3) := HF2.out.trans (Fr.trans (O := fun _ => False) ((Fr.refl _ w2).alloc _) hF3 (fun _ h => h.elim)) (fun _ h => h.elim)
      clear hF3 HF2 HT HB
      cases b with
      | true =>
        go_wp2_with fail
        go_ret2
        rw [HK.out]
        exact ⟨HF3.out, _, rfl, .inr ⟨by decide, rfl⟩⟩
      | false =>
        go_wp2_with fail
        go_ret2
        rw [HK.out]
        exact ⟨HF3.out.alloc _, _, rfl, .inl ⟨rfl, _, rfl⟩⟩
    · rename_i hg
      rcases h2 with ⟨-, rfl⟩ | ⟨h2, -⟩
      · have HK : Hid (k = 3) := by show k = 3; simpa using hk.symm
        clear hk
        go_wp2_with fail
        go_ret2
        rw [HK.out]
        exact ⟨HF2.out.alloc _, _, rfl, .inr ⟨by decide, rfl⟩⟩
      · rw [h2] at hg; exact absurd rfl hg
  · rename_i hx2
    have HK : Hid (k = 2) := by show k = 2; simpa using hk.symm
    clear hk
    go_enter Tryd.func6, Tryd.ntmps6
    go_wp2_with fail
    refine (split_any t n x HX.out _ hl2 HKW.out).mono ?_
    rintro e w1 ⟨hF1, -, h1⟩
    have HF1 : Hid (Fr (fun _ => False) w w1) := hF1
    rcases h1 with ⟨-, rfl⟩ | ⟨h1, -⟩
    · clear hF1 HX HKW
      go_wp2_with fail
      go_ret2
      rw [HK.out]
      exact ⟨HF1.out, _, rfl, .inr ⟨by decide, rfl⟩⟩
    · exact absurd h1 hx2

end Go.Proofs.YtnbhnjokpcdnnaaDoor
