import Derived.Test.YtnbhnjokpcdnnaaGreatDoorQB4
import Derived.Test.YtnbhnjokpcdnnaaGreatDoorQC3
import Derived.OwnWalk
import Derived.Test.YtnbhnjokpcdnnaaGreatDoorRows
import Derived.ProofKit
import Derived.LaidMore
import Derived.OpenShut
import Derived.Stop.Joined
import Derived.ChangeMaps5
import Derived.Test.YtnbhnjokpcdnnaaGreatDoorTie
import Derived.Test.YtnbhnjokpcdnnaaGreatDoorCards
import Derived.SevenTiedAt
set_option linter.unusedSimpArgs false
set_option linter.unusedVariables false

namespace Go.Proofs.YtnbhnjokpcdnnaaGreatDoor
open Go.RowKit

theorem Tp.sh {names : List (List UInt8)} {s : RS} : ∀ (n m : Nat), n ≤ m → ∀ q x, Tp names s n q x → Sh m q
  | 0, _, _, _, _, h => h.elim
  | n + 1, 0, h0, _, _, _ => by omega
  | n + 1, m + 1, h0, q, x, ⟨p, h1, h2⟩ => by
    rcases h2 with ⟨-, y, rfl, -⟩ | ⟨-, k, a, b, hk, rfl, h5, h6⟩ | ⟨-, k, z, hk, rfl⟩
    · exact ⟨_, _, _, _, _, _, rfl, by simp, by simp, fun h => absurd h (by decide)⟩
    · refine ⟨_, _, _, _, _, _, rfl, ?_, by simp, fun h => by simp⟩
      intro c hc
      simp at hc
      rcases hc with rfl | rfl
      · exact Tp.sh n m (by omega) _ _ h5
      · exact Tp.sh n m (by omega) _ _ h6
    · exact ⟨_, _, _, _, _, _, rfl, by simp, by simp, fun h => by rw [h] at hk; simp at hk⟩

theorem Te.sh {names : List (List UInt8)} {s : RS} : ∀ (n m : Nat), 2 * n ≤ m → ∀ t x, Te names s n t x → Sh m t
  | 0, _, _, _, _, h => h.elim
  | n + 1, 0, h0, _, _, _ => by omega
  | n + 1, 1, h0, _, _, _ => by omega
  | n + 1, m + 2, h0, t, x, ⟨e, h1, h2⟩ => by
    have ih := fun t x => Te.sh (names := names) (s := s) n (m + 1) (by omega) t x
    have ih2 := fun t x => Te.sh (names := names) (s := s) n m (by omega) t x
    rcases h2 with ⟨-, k, z, hk, rfl⟩ | ⟨-, y, k, -, -, rfl⟩ | ⟨-, k, a, hk, rfl, ha⟩ | ⟨-, k, a, b, hk, rfl, ha, hb⟩ | ⟨-, a, b, c, rfl, ha, hb, hc⟩ | ⟨-, y, b, rfl, -, hb⟩ | ⟨-, k, y, a, b, hk, rfl, -, ha, hb⟩ | ⟨-, ds, b, rfl, ⟨-, hf⟩, hb⟩ | ⟨-, a, bs, qs, rfl, ha, hq⟩
    · exact ⟨_, _, _, _, _, _, rfl, by simp, by simp, fun h => by rw [h] at hk; simp at hk⟩
    · exact ⟨_, _, _, _, _, _, rfl, by simp, by simp, fun h => absurd h (by decide)⟩
    · exact ⟨_, _, _, _, _, _, rfl, by intro c hc; simp at hc; subst hc; exact ih _ _ ha, by simp, fun h => by simp⟩
    · refine ⟨_, _, _, _, _, _, rfl, ?_, by simp, fun h => by simp⟩
      intro c hc; simp at hc
      rcases hc with rfl | rfl
      · exact ih _ _ ha
      · exact ih _ _ hb
    · refine ⟨_, _, _, _, _, _, rfl, ?_, by simp, fun h => by simp⟩
      intro d hd; simp at hd
      rcases hd with rfl | rfl | rfl
      · exact ih _ _ ha
      · exact ih _ _ hb
      · exact ih _ _ hc
    · exact ⟨_, _, _, _, _, _, rfl, by intro c hc; simp at hc; subst hc; exact ih _ _ hb, by simp, fun h => by simp⟩
    · refine ⟨_, _, _, _, _, _, rfl, ?_, by simp, fun h => by simp⟩
      intro c hc; simp at hc
      rcases hc with rfl | rfl
      · exact ih _ _ ha
      · exact ih _ _ hb
    · refine ⟨_, _, _, _, _, _, rfl, ?_, by simp, fun h => by simp⟩
      have hds : ∀ (ds : List Code) (fs : List (Int × Int × Int)), Tfs names s (Te names s n) ds fs → ∀ d ∈ ds, Sh (m + 1) d := by
        intro ds
        induction ds with
        | nil => intro _ _ d hd; cases hd
        | cons d0 ds ihd =>
          intro fs hf d hd
          cases fs with
          | nil => exact hf.elim
          | cons f fs =>
            obtain ⟨⟨own, x, bd, rfl, -, -, hR⟩, hf2⟩ := hf
            rcases List.mem_cons.1 hd with rfl | hd
            · exact ⟨_, _, _, _, _, _, rfl, by intro c hc; simp at hc; subst hc; exact ih2 _ _ hR, by simp, fun h => by simp⟩
            · exact ihd fs hf2 d hd
      intro c hc
      rcases List.mem_append.1 hc with hc | hc
      · exact hds ds e.funs hf c hc
      · simp at hc; subst hc; exact ih _ _ hb
    · have har : ∀ (bs qs : List Code) (ar : List (Int × Int)), Tas (Te names s n) (Tp names s n) bs qs ar → (∀ b ∈ bs, Sh (m + 1) b) ∧ ∀ q ∈ qs, Sh (m + 1) q := by
        intro bs
        induction bs with
        | nil =>
          intro qs ar h
          cases qs with
          | nil => exact ⟨by simp, by simp⟩
          | cons _ _ => exact h.elim
        | cons b bs ihb =>
          intro qs ar h
          cases qs with
          | nil => exact h.elim
          | cons q qs =>
            cases ar with
            | nil => exact h.elim
            | cons a ar =>
              obtain ⟨⟨g1, g2⟩, g3⟩ := h
              obtain ⟨k1, k2⟩ := ihb qs ar g3
              refine ⟨?_, ?_⟩
              · intro c hc
                rcases List.mem_cons.1 hc with rfl | hc
                · exact ih _ _ g2
                · exact k1 c hc
              · intro c hc
                rcases List.mem_cons.1 hc with rfl | hc
                · exact Tp.sh n (m + 1) (by omega) _ _ g1
                · exact k2 c hc
      obtain ⟨k1, k2⟩ := har bs qs e.arms hq
      refine ⟨_, _, _, _, _, _, rfl, ?_, k2, fun h => by simp⟩
      intro c hc
      rcases List.mem_cons.1 hc with rfl | hc
      · exact ih _ _ ha
      · exact k1 c hc

/-- What is wanted of the types: an end. -/
def TyOk (T : Code) : Prop := ∀ ⦃w : World⦄ ⦃p : Value⦄, Nd w (fun _ => False) T p → Calls Tryz.prog 13 #[p] w fun e w' => Fr (fun _ => False) w w' ∧ (e = .returned (.pointer none) ∨ ∃ q, e = .returned (.pointer (some q)) ∧ Calls Tryz.prog 14 #[.pointer (some q)] w' fun e w'' => Fr (fun _ => False) w' w'' ∧ ∃ s, e = .returned s)

/-- All trees of words whose names are in sight. -/
def AllTy : Prop := ∀ (ws : List RW) (T : Code) (names : List (List UInt8)) (s : RS) (m : Nat) (x : Int), ws.length ≤ 240 → Dv ws 0 0 ws.length T → Te names s m T x → wt T ≤ 480 → (∀ k, 2 * m ≤ k → bR k T [] = some true) → TyOk T

set_option maxHeartbeats 3200000 in
set_option maxRecDepth 100000 in
theorem program_ref (HT : AllTy) (t : List UInt8) (w : World) : Calls Tryz.prog 5 #[.string (bs t)] w fun e w' => Fr (fun _ => False) w w' ∧ ∃ (a b : Value) (g k : Int) (N : Nat), e = .returned (.tuple #[a, b, .int .i64 g]) ∧ (∀ n, N ≤ n → cErr n t = some k) ∧ (((k = 1 ∨ k = 2 ∨ k = 3 ∨ k = 4) ∧ g = k) ∨ (k = 0 ∧ (g = 0 ∨ g = 5))) := by
  by_cases hlong : 240 < t.length
  · have HK : Hid (∀ n, 0 ≤ n → cErr n t = some 1) := fun n _ => plain_long hlong n
    have hb : ¬ t.length ≤ 240 := by omega
    go_enter Tryz.func5, Tryz.ntmps5
    go_wp2_with fail
    go_ret3
    exact ⟨Fr.refl _ _, _, _, 1, 1, 0, rfl, HK.out, .inl ⟨.inl rfl, rfl⟩⟩
  · have hshort : t.length ≤ 240 := by omega
    obtain ⟨⟨ws, ok⟩, hw⟩ := wordsR_some (t.length + 1) t [] (Nat.lt_succ_self _)
    have HW : Hid (wordsR (t.length + 1) t [] = some (ws, ok)) := hw
    clear hw hlong
    go_enter Tryz.func5, Tryz.ntmps5
    go_wp2_with fail
    refine (words_ref t (t.length + 1) (ws, ok) HW.out w hshort).mono ?_
    rintro e w1 ⟨hF1, hl, ⟨hok, rfl⟩ | ⟨hok, L, rfl, hrow⟩⟩
    · have HF1 : Hid (Fr (fun _ => False) w w1) := hF1
      clear hF1
      have hok' : ok = false := hok
      subst hok'
      have HK := plain_lex hshort HW.out
      obtain ⟨n, hk⟩ := HK
      have HK : Hid (∀ n', n ≤ n' → cErr n' t = some 2) := hk
      clear hk
      go_wp2_with fail
      go_ret3
      exact ⟨HF1.out, _, _, 2, 2, n, rfl, HK.out, .inl ⟨.inr (.inl rfl), rfl⟩⟩
    · have HF1 : Hid (Fr (fun _ => False) w w1) := hF1
      clear hF1
      have hok' : ok = true := hok
      subst hok'
      have hl' : ws.length ≤ 240 := hl
      go_wp2_with fail
      refine (parse_ref (ws := ws) hrow hl').mono ?_
      rintro e w2 ⟨p, rfl, hA, hF2⟩
      have HF2 : Hid (Fr (fun _ => False) w w2) := HF1.out.trans hF2 (fun _ h => .inl h)
      clear hF2
      rcases hA with ⟨rfl, hno⟩ | ⟨T, hT, hN⟩
      · obtain ⟨n, hk⟩ := plain_syntax hshort HW.out hl' hno
        have HK : Hid (∀ n', n ≤ n' → cErr n' t = some 3) := hk
        clear hk hno hrow
        go_wp2_with fail
        go_ret3
        exact ⟨HF2.out, _, _, 3, 3, n, rfl, HK.out, .inl ⟨.inr (.inr (.inl rfl)), rfl⟩⟩
      · obtain ⟨names, s, m, x, wr, hTe, hwt, hb, n, hk⟩ := plain_tree hshort HW.out hl' hT
        have HK : Hid (∀ n', n ≤ n' → cErr n' t = some (if wr then 4 else 0)) := hk
        obtain ⟨bb, rfl, -, hblt⟩ := hN.ptr
        have HCB : Hid (Calls Tryz.prog 12 #[.pointer (some ⟨bb, 0, none⟩), .slice none 0 0] w2 fun e w' => e = .returned (.bool (!wr)) ∧ Fr (fun _ => False) w2 w') := bound_ref (2 * m) (2 * m) (hb _ (Nat.le_refl _)) (Te.sh m (2 * m) (Nat.le_refl _) _ _ hTe) hN (StrRow.nil w2 none 0) (by simp; omega)
        have HTY : Hid (wr = false → ∀ w3, Fr (fun _ => False) w2 w3 → Calls Tryz.prog 13 #[.pointer (some ⟨bb, 0, none⟩)] w3 fun e w' => Fr (fun _ => False) w3 w' ∧ (e = .returned (.pointer none) ∨ ∃ q, e = .returned (.pointer (some q)) ∧ Calls Tryz.prog 14 #[.pointer (some q)] w' fun e w'' => Fr (fun _ => False) w' w'' ∧ ∃ s, e = .returned s)) := fun hwr w3 h3 => HT ws T names s m x hl' hT hTe hwt (fun k hk => by have := hb k hk; rw [hwr] at this; exact this) (hN.fr h3)
        clear hk hb hTe hN hT hrow
        go_wp2_with fail
        refine HCB.out.mono ?_
        rintro e w3 ⟨rfl, hF3⟩
        have HF3 : Hid (Fr (fun _ => False) w2 w3) := hF3
        clear HCB hF3
        cases wr
        · go_wp2_with fail
          refine (HTY.out trivial _ HF3.out).mono ?_
          rintro e w4 ⟨hF4, (rfl | ⟨q, rfl, hC⟩)⟩
          · have HF4 : Hid (Fr (fun _ => False) w w4) := (HF2.out.trans HF3.out (fun _ h => .inl h)).trans hF4 (fun _ h => .inl h)
            clear hF4
            go_wp2_with fail
            go_ret3
            exact ⟨HF4.out, _, _, 5, 0, n, rfl, HK.out, .inr ⟨rfl, .inr rfl⟩⟩
          · have HC : Hid (Calls Tryz.prog 14 #[.pointer (some q)] w4 fun e w'' => Fr (fun _ => False) w4 w'' ∧ ∃ s, e = .returned s) := hC
            have HF4 : Hid (Fr (fun _ => False) w w4) := (HF2.out.trans HF3.out (fun _ h => .inl h)).trans hF4 (fun _ h => .inl h)
            clear hC hF4
            go_wp2_with fail
            refine HC.out.mono ?_
            rintro e w5 ⟨hF5, sv, rfl⟩
            have HF5 : Hid (Fr (fun _ => False) w w5) := HF4.out.trans hF5 (fun _ h => .inl h)
            clear hF5
            go_wp2_with fail
            go_ret3
            exact ⟨HF5.out, _, _, 0, 0, n, rfl, HK.out, .inr ⟨rfl, .inl rfl⟩⟩
        · go_wp2_with fail
          go_ret3
          exact ⟨HF2.out.trans HF3.out (fun _ h => .inl h), _, _, 4, 4, n, rfl, HK.out, .inl ⟨.inr (.inr (.inr rfl)), rfl⟩⟩
end Go.Proofs.YtnbhnjokpcdnnaaGreatDoor

namespace Go.Proofs.YtnbhnjokpcdnnaaGreatDoor
open Go.RowKit

set_option maxHeartbeats 800000 in
set_option maxRecDepth 100000 in
theorem early_yes (k : Int) (hk : k = 1 ∨ k = 2 ∨ k = 3 ∨ k = 4) (w : World) : Calls Tryz.prog 6 #[.int .i64 k] w fun e w' => e = .returned (.bool true) ∧ w' = w := by
  rcases hk with rfl | rfl | rfl | rfl
  all_goals
    go_enter Tryz.func6, Tryz.ntmps6
    go_wp2_with fail
    go_ret
    exact ⟨rfl, rfl⟩

set_option maxHeartbeats 800000 in
set_option maxRecDepth 100000 in
theorem early_no (k : Int) (hk : k = 0 ∨ k = 5) (w : World) : Calls Tryz.prog 6 #[.int .i64 k] w fun e w' => e = .returned (.bool false) ∧ w' = w := by
  rcases hk with rfl | rfl
  all_goals
    go_enter Tryz.func6, Tryz.ntmps6
    go_wp2_with fail
    go_ret
    exact ⟨rfl, rfl⟩

theorem sSplit_det {t : List UInt8} {n m : Nat} {s : SS} {r r' : List (Int × Int) × Bool} (h1 : sSplit t n s = some r) (h2 : sSplit t m s = some r') : r = r' := by
  have a := sSplit_up n (n + m) s r (by omega) h1
  have b := sSplit_up m (n + m) s r' (by omega) h2
  rw [a] at b
  injection b

set_option maxHeartbeats 1600000 in
set_option maxRecDepth 100000 in
/-- Reads, under the types' ending. -/
theorem reads_ref (HT : AllTy) (t : List UInt8) (w : World) (hlen : t.length ≤ 9223372036854775807) (hkw : KW w) : Calls Tryz.prog 3 #[.string (bs t)] w fun e w' => e = .returned (.bool true) ∧ Fr (fun _ => False) w w' := by
  by_cases hbig : 16384 < t.length
  · go_enter Tryz.func3, Tryz.ntmps3
    go_wp2_with fail
    go_ret
    exact ⟨rfl, Fr.refl _ _⟩
  · have hsmall : t.length ≤ 16384 := by omega
    have hd : decide (16384 < (t.length : Int)) = false := decide_eq_false (by omega)
    have HKW : Hid (KW w) := hkw
    clear hkw hbig
    -- the error that both must find
    have hex : ∃ N k, (∀ n, N ≤ n → cErr n t = some k) ∧ (k = 0 ∨ k = 1 ∨ k = 2 ∨ k = 3 ∨ k = 4) := by
      by_cases hlong : 240 < t.length
      · exact ⟨0, 1, fun n _ => plain_long hlong n, .inr (.inl rfl)⟩
      · have hshort : t.length ≤ 240 := by omega
        obtain ⟨⟨ws, ok⟩, hw⟩ := wordsR_some (t.length + 1) t [] (Nat.lt_succ_self _)
        have hwl := words_len _ _ _ _ _ hw
        simp at hwl
        cases ok with
        | false =>
          obtain ⟨n, hk⟩ := plain_lex hshort hw
          exact ⟨n, 2, hk, .inr (.inr (.inl rfl))⟩
        | true =>
          by_cases hT : ∃ T, Dv ws 0 0 ws.length T
          · obtain ⟨T, hT⟩ := hT
            obtain ⟨_, _, _, _, wr, -, -, -, n, hk⟩ := plain_tree hshort hw (by omega) hT
            cases wr with
            | true => exact ⟨n, 4, hk, .inr (.inr (.inr (.inr rfl)))⟩
            | false => exact ⟨n, 0, hk, .inl rfl⟩
          · obtain ⟨n, hk⟩ := plain_syntax hshort hw (by omega) (fun T h => hT ⟨T, h⟩)
            exact ⟨n, 3, hk, .inr (.inr (.inr (.inl rfl)))⟩
    obtain ⟨n, k, hk, hkk⟩ := hex
    have HK : Hid (∀ n', n ≤ n' → cErr n' t = some k) := hk
    clear hk
    go_enter Tryz.func3, Tryz.ntmps3
    go_wp2_with fail
    refine (compile_any n t k (HK.out n (Nat.le_refl _)) w hlen HKW.out).mono ?_
    rintro e w1 ⟨hF1, pv, rfl, hpv⟩
    have HF1 : Hid (Fr (fun _ => False) w w1) := hF1
    clear hF1
    clear HKW
    rcases hkk with rfl | hkk
    · obtain ⟨a, rfl⟩ : ∃ a, pv = .pointer (some a) := by
        rcases hpv with ⟨-, h⟩ | ⟨h, -⟩
        · exact h
        · exact (h rfl).elim
      clear hpv
      go_wp2_with fail
      refine (program_ref HT t _).mono ?_
      rintro e w2 ⟨hF2, a1, b1, g, k', N, rfl, hk', hg⟩
      have HF2 : Hid (Fr (fun _ => False) w w2) := HF1.out.trans hF2 (fun _ h => .inl h)
      clear hF2
      have hkk' : k' = 0 := by
        have h1 := HK.out (n + N) (by omega)
        have h2 := hk' (n + N) (by omega)
        rw [h1] at h2
        injection h2 with h2
        exact h2.symm
      have hg' : g = 0 ∨ g = 5 := by
        rcases hg with ⟨h, -⟩ | ⟨-, h⟩
        · omega
        · exact h
      clear hg hk' hkk'
      have HG : Hid (g = 0 ∨ g = 5) := hg'
      clear hg'
      go_wp2_with fail
      refine (early_no g HG.out _).mono ?_
      rintro e w3 ⟨rfl, rfl⟩
      go_wp2_with fail
      refine (early_no 0 (.inl rfl) _).mono ?_
      rintro e w4 ⟨rfl, rfl⟩
      go_wp2_with fail
      go_ret
      exact ⟨rfl, HF2.out⟩
    · obtain rfl : pv = .pointer none := by
        rcases hpv with ⟨h, -⟩ | ⟨-, h⟩
        · omega
        · exact h
      clear hpv
      go_wp2_with fail
      refine (program_ref HT t _).mono ?_
      rintro e w2 ⟨hF2, a1, b1, g, k', N, rfl, hk', hg⟩
      have HF2 : Hid (Fr (fun _ => False) w w2) := HF1.out.trans hF2 (fun _ h => .inl h)
      clear hF2
      have hkk' : k' = k := by
        have h1 := HK.out (n + N) (by omega)
        have h2 := hk' (n + N) (by omega)
        rw [h1] at h2
        injection h2 with h2
        exact h2.symm
      obtain rfl : g = k := by
        rcases hg with ⟨-, h⟩ | ⟨h, -⟩
        · omega
        · omega
      clear hg hk' hkk'
      have HG : Hid (g = 1 ∨ g = 2 ∨ g = 3 ∨ g = 4) := hkk
      clear hkk
      go_wp2_with fail
      refine (early_yes g HG.out _).mono ?_
      rintro e w3 ⟨rfl, rfl⟩
      go_wp2_with fail
      go_ret
      exact ⟨rfl, HF2.out⟩
end Go.Proofs.YtnbhnjokpcdnnaaGreatDoor

namespace Go.Proofs.YtnbhnjokpcdnnaaGreatDoor
open Go.ChangeMaps Go.ChangeShapes Go.WideShapes Go.ChangeAt Go.WideMaps Go.WideElems Go.RowKit

theorem ownK : ownKnob Tryz.prog.godebug = none := by kernel_rfl
theorem gKey : Tryz.prog.globalNamed "resume/words.keywords" = some 0 := by kernel_rfl
theorem gSig : Tryz.prog.globalNamed "resume/words.signs" = some 1 := by kernel_rfl
theorem tKey : (Tryz.prog.globals[0]?).map (·.type) = some 117 := by kernel_rfl
theorem tSig : (Tryz.prog.globals[1]?).map (·.type) = some 119 := by kernel_rfl

def laid2 : List (String × DataW Unit) := [("resume/words.keywords", Rows.laid_resume_words_keywords), ("resume/words.signs", Rows.laid_resume_words_signs)]

/-- An array of texts, read: its cells. -/
theorem cells_of {W : World} {H : Type} {enc : TypeId × Value → H} {base : Nat} {sp : Nat → Bool} {held : Bool} {fuel n : Nat} {t : TypeId} {cs : Array Value} {L : List (List UInt8)} {ps : List MemPlace} (ht : Tryz.prog.underlying t = some (.array n 9)) (hL : L.length = n)
    (hd : DataW.trod enc Tryz.prog W base sp held fuel t cs.toList = some (.agg (L.map fun x => .lit (.string x)), ps)) : ∀ i, i < n → cs[i]? = some (.string (bs (L.getD i []))) := by
  obtain ⟨xs, m, rfl, hx, hlen, hn, hel⟩ := DataW.trod_array ht hd
  have c9 : Tryz.prog.cellsOf 9 = 1 := by kernel_rfl
  intro i hi
  have h1 := hel i hi
  rw [c9, Nat.mul_one] at h1
  simp only [Prod.mk.injEq, DataW.agg.injEq] at hx
  have hxi : xs[i]? = some xs[i] := List.getElem?_eq_getElem (by omega)
  rw [hxi] at h1
  obtain ⟨s, e1, e2, -⟩ := DataW.trod_string Tryz.underlying9 h1
  have h2 : (L.map fun x => (DataW.lit (.string x) : DataW H))[i]? = (xs.map (·.1))[i]? := by rw [hx.1]
  rw [List.getElem?_map, List.getElem?_map, hxi, List.getElem?_eq_getElem (by omega), e2] at h2
  simp at h2
  have h3 : cs.toList[i]? = some (.string s) := by
    have := congrArg (fun l => l[0]?) e1
    simpa [List.getElem?_take, List.getElem?_drop] using this
  rw [List.getD_eq_getElem?_getD, List.getElem?_eq_getElem (by omega)]
  simp only [Option.getD_some]
  rw [h2]
  simpa using h3

theorem kw_of_laid {W : World} (h : laidMetH Tryz.prog laid2 W) : KW W := by
  rw [MakeChecks.laidMetH_plain _ _ _ (by kernel_rfl)] at h
  obtain ⟨ps, ⟨g0, t0, cs0, f0, p0, q0, hg0, ht0, hv0, hd0, ⟨g1, t1, cs1, f1, p1, q1, hg1, ht1, hv1, hd1, _, _⟩, _⟩, _, _⟩ := h
  obtain rfl := Option.some.inj (gKey.symm.trans hg0)
  obtain rfl := Option.some.inj (gSig.symm.trans hg1)
  obtain rfl := Option.some.inj (tKey.symm.trans ht0)
  obtain rfl := Option.some.inj (tSig.symm.trans ht1)
  refine ⟨fun i hi => ?_, fun i hi => ?_⟩
  · rw [World.var?_cell hg0 hv0 i]
    exact cells_of (L := kwList) Tryz.underlying117 rfl hd0 i hi
  · rw [World.var?_cell hg1 hv1 i]
    exact cells_of (L := sgList) Tryz.underlying119 rfl hd1 i hi

/-- The door's own heap meets the condition. -/
theorem door_met (os : Os) (args : Array Value) : laidMetH Tryz.prog laid2 ((World.doorLaid Tryz.prog 400 os).forCall (fun _ _ => 0) ⟨#[], args, []⟩).memory :=
  laidMetH_of_parts3 (fuel := 8) (laidMet_of_run' 8 (by kernel_rfl) (by kernel_rfl)) (by kernel_rfl) (by kernel_rfl)

set_option maxRecDepth 100000 in
theorem lifted (HT : AllTy) (os : Os) (started : os.Started) (H : Type) (enc : TypeId × Value → H) :
    ReturnsInHanded {} Tryz.checked os 3 .any (fun w args => (Rows.readsSpec.pre enc Tryz.prog Tryz.f3 [] false w args ∧ laidMetH Tryz.prog laid2 w) ∧ sizedMet enc Tryz.prog Tryz.f3 (OpenSpec.ofChange Rows.readsSpec) false w args)
      (Rows.readsSpec.post enc Tryz.prog Tryz.f3 false true false false) := by
  refine returnsInHanded_of_change_and (C := Tryz.checked) (X := fun w _ => laidMetH Tryz.prog laid2 w) (fun _ _ _ hh h => h.of_heap hh) ownK started (by kernel_rfl) Tryz.func3
    (ChangeSpec.witness_shaped (enc := enc) (C := Tryz.checked) (os := os) (X := fun w _ => laidMetH Tryz.prog laid2 w) false (World.doorLaid Tryz.prog 400 os) #[.string ⟨#[]⟩] 8 rfl (World.shaped_of_RefB (by kernel_rfl) (by kernel_rfl)) (by kernel_rfl) (by kernel_rfl) (by kernel_rfl) (door_met os _)) ?_
  intro W base args ds gs before hval0 hW _ _ hL _
  have hval : ∀ (j : Nat) t v, Tryz.f3.params[j]? = some t → args[j]? = some v → Value.okWide Tryz.prog W .any base t v := hval0
  have hW' := hW
  obtain ⟨p, q, hA0, hV, rfl, hfz, hnd⟩ := hW
  have hA : DataW.TrodAll enc Tryz.prog W 0 (fun _ => true) true Tryz.f3.params.toList args.toList ds p := hA0
  rw [Tryz.params3] at hA hval
  obtain ⟨v0, d0, rfl, rfl, h0⟩ := trodAll_one hA
  obtain ⟨rfl, rfl⟩ := trodVars_none hV
  obtain ⟨s, rfl, rfl, rfl, hs⟩ := open_string Tryz.underlying9 (hval 0 9 v0 rfl rfl) h0
  have hkw := kw_of_laid hL
  clear hA0 hval0
  simp only [List.append_nil] at hW'
  obtain ⟨t, rfl⟩ : ∃ t : List UInt8, s = bs t := ⟨s.data.toList, by simp⟩
  have hlen : t.length ≤ 9223372036854775807 := by
    have h1 : (bs t).size = t.length := by simp [ByteArray.size]
    rw [h1] at hs
    unfold maxLen at hs
    omega
  refine (reads_ref HT t W hlen hkw).mono fun e W' ⟨he, hF⟩ => ?_
  subst he
  have e1 : Rows.readsSpec.fn H ([.lit (.string (bs t).data.toList)] ++ []) = { results := [.lit (.bool true)], args := [.lit (.string (bs t).data.toList)] } := by simp [Rows.readsSpec]
  refine ⟨_, rfl, _, _, _, [], [], [], hW', ?_, ?_, ?_, (hF.below (Nat.le_refl _) (fun _ h => h.elim)).frame _, fun h => by cases h⟩
  · rw [e1]; exact trodAll_mk1 (shut_bool Tryz.underlying4 true)
  · rw [e1]; exact trodAll_mk1 (shut_string Tryz.underlying9 hs)
  · rw [e1]; rfl

theorem reads_row (HT : AllTy) : Rows.ReadsSaid :=
  OpenClaim.holds_of_wide 3 Tryz.f3 rfl rfl rfl rfl rfl rfl rfl ⟨rfl, rfl, rfl, rfl, rfl⟩ rfl rfl rfl rfl rfl (by kernel_rfl) Tryz.func3 (by kernel_rfl)
    (of_decide_eq_true (by kernel_rfl)) (by unfold Func.isWrapper; first | (rw [if_pos (by decide +kernel)]; kernel_rfl) | (rw [if_neg (by decide +kernel)]; exact ⟨rfl, rfl⟩))
    (fun os started H enc _ => lifted HT os started H enc)
end Go.Proofs.YtnbhnjokpcdnnaaGreatDoor

namespace Go.Proofs.YtnbhnjokpcdnnaaGreatDoor
open Go

/-- The card, under the types' ending. -/
theorem reads_card (HT : AllTy) : Rows.ReadsCardSaid :=
  Claim7.holds_tied_plain_at .later [] [.data, .data] true (true, "71e343a1c269fa9ddfae5597143f36e53797e7a9314dcae6254b9ca2fcacda94") false
    (reads_row HT) (fun _ h => by cases h) (by kernel_rfl) (fun _ h => by cases h) reads_row_tie rfl ⟨rfl, rfl⟩ (by kernel_rfl) rfl
    (fun f fn hf hfn => by
      obtain rfl : f = 3 := Option.some.inj ((show Tryz.prog.funcNamed "resume/resumelaw.Reads" = some 3 by kernel_rfl).symm.trans hf) |>.symm
      obtain rfl : fn = Tryz.f3 := (Option.some.inj (Tryz.func3.symm.trans hfn)).symm
      exact ⟨by kernel_rfl, fun j t ht => by
        rw [Tryz.params3] at ht
        have h3 : t = 9 := by
          rcases j with _ | j
          · simpa using ht.symm
          · simp at ht
        subst h3
        exact (show Tryz.prog.wantsStandIn 9 = false by kernel_rfl)⟩)
    (by kernel_rfl)
end Go.Proofs.YtnbhnjokpcdnnaaGreatDoor
