import Derived.Deep.LoopGhost
import Derived.Test.YtklimomeendajaaGreatDoorMB4
import Derived.Test.YtklimomeendajaaGreatDoorMB3
import Derived.Test.YtklimomeendajaaGreatDoorMA3
import Derived.Laws.ResultCell
set_option linter.unusedVariables false
set_option linter.unusedSimpArgs false
/- Open. -/
namespace Go.Proofs.YtklimomeendajaaGreatDoor
open Go.RowKit

section
variable {w w' wr w1 w2 : World} {f o : Nat} {ty : TypeId} {c : Array Value} {s s' s2 sk : SX} {G G' : Value} {bk bk' : List Nat} {t : Int} {x x' : ND} {D : Value} {dn : List Int}

/-- The store, and a row of types that is not its own. -/
structure Ow (w wr : World) (f o : Nat) (ty : TypeId) (c : Array Value) (sk : SX) (G : Value) (bk : List Nat) (D : Value) (dn : List Int) : Prop where
  so : So wr f o ty c sk G bk
  fr : Fr (own2 f bk) w wr
  d : wr.ownsRow w.heap.size 155 1 D dn.length (tyC dn)

theorem Ow.put (h : Ow w wr f o ty c sk G bk D dn) (h0 : So w f o ty c s G bk) (hx : xAt sk t = some x) {b m i : Nat} (ha : adr bk t = ⟨b, m, none⟩) {v : Value} (hi : i < 6) (hv : ndc x' = (ndc x).set i v) : Ow w (wr.setCell ⟨b, m + i, none⟩ v) f o ty c (xSet sk t x') G bk D dn := by
  have hm := adr_mem h.so hx ha
  exact ⟨h.so.put hx ha hi hv, h.fr.setCell (.inl (.inr hm)) _, h0.kpR2 ((Fr.refl _ wr).setCell (.inl (.inr hm)) _) h.d⟩

theorem Ow.go (h : Ow w wr f o ty c sk G bk D dn) (h0 : So w f o ty c s G bk) (h1 : So w1 f o ty c s' G bk) (hF : Fr (own2 f bk) wr w1) : Ow w w1 f o ty c s' G bk D dn := ⟨h1, h.fr.trans hF (fun _ h => .inl h), h0.kpR2 hF h.d⟩

theorem fr2 {W W' : World} (h : Fr (fun b => b ∈ bk) W W') : Fr (own2 f bk) W W' := h.mono fun _ h => .inl (.inr h)
theorem fr0 {O : Nat → Prop} {W W' : World} (h : Fr (fun _ => False) W W') : Fr O W W' := h.mono fun _ h => h.elim

set_option maxHeartbeats 1000000 in
set_option maxRecDepth 100000 in
theorem open_so (h : So w f o ty c s G bk) {n : Nat} {fx : List Int} {b : Bool} (hx : xOpen n s t fx = some (s', b)) {FV : Value} (hFV : w.ownsRow 0 155 1 FV fx.length (tyC fx)) (hFO : ∀ b, FV.ownBlock = some b → ¬ sown f G bk b) :
    Calls Tryz.prog 249 #[.pointer (some ⟨f, o, none⟩), .int .i32 t, FV] w fun e w' => e = .returned (.bool b) ∧ So w' f o ty c s' G bk ∧ Fr (own2 f bk) w w' := by
  unfold xOpen at hx
  obtain ⟨⟨s1, dn, ok⟩, hin, hx⟩ := bindO hx
  have HS : Hid (So w f o ty c s G bk) := h
  have HI : Hid (xInside n s t = some (s1, dn, ok)) := hin
  obtain ⟨va, vc, rfl⟩ := ownsRow_len hFV
  have HV : Hid (w.ownsRow 0 155 1 (.slice va fx.length vc) fx.length (tyC fx)) := hFV
  have HO : Hid (∀ b, (Value.slice va fx.length vc).ownBlock = some b → ¬ own2 f bk b) := fun b hb h => hFO b hb (own2_sown h)
  have hfl := row_le hFV
  clear h hin hFV hFO
  cases ok with
  | false =>
    injection hx with hx
    injection hx with e1 e2
    subst e1 e2
    go_enter Tryz.func249, Tryz.ntmps249
    go_wp2_with fail
    refine (inside_so HS.out HI.out).mono ?_
    rintro r5 w5 ⟨D, rfl, hD, hS5, hF5⟩
    obtain ⟨da, dc, rfl⟩ := ownsRow_len hD
    have HE : Hid (So w5 f o ty c s1 G bk ∧ Fr (own2 f bk) w w5) := ⟨hS5, hF5⟩
    clear hD hS5 hF5
    go_wp2_with fail
    go_ret
    exact ⟨rfl, HE.out⟩
  | true =>
    obtain ⟨s2, hn, hx⟩ := bindO hx
    obtain ⟨s3, ht, hx⟩ := bindO hx
    obtain ⟨s4, hh, hx⟩ := bindO hx
    obtain ⟨s5, ho, hx⟩ := bindO hx
    injection hx with hx
    injection hx with e1 e2
    subst e1 e2
    obtain ⟨hwk, rfl⟩ := xTick_some ht
    have HN : Hid (xNote 0 dn s1 = some s2) := hn
    have HH : Hid (xHeld n fx { s2 with wk := s2.wk + 1 } = some s4) := hh
    have HP : Hid (xOpenL n dn s4 = some s5) := ho
    have HWK : Hid (s2.wk < 1000000000) := hwk
    clear hn ht hh ho hwk
    go_enter Tryz.func249, Tryz.ntmps249
    go_wp2_with fail
    refine (inside_so HS.out HI.out).mono ?_
    rintro r5 w5 ⟨D, rfl, hD, hS5, hF5⟩
    obtain ⟨da, dc, rfl⟩ := ownsRow_len hD
    have HE : Hid (Ow w w5 f o ty c s1 G bk (.slice da dn.length dc) dn) := ⟨hS5, hF5, hD⟩
    have hdl := row_le hD
    clear hD hS5 hF5
    go_wp2_with fail
    go_loopg [9] dn.length (fun k iv wr => ∃ (j : Nat) (sk : SX), iv = .int .i64 j ∧ j ≤ dn.length ∧ k = dn.length - j ∧ xNote 0 (dn.drop j) sk = some s2 ∧ Ow w wr f o ty c sk G bk (.slice da dn.length dc) dn)
    case atStart => exact ⟨0, s1, rfl, Nat.zero_le _, rfl, HN.out, HE.out⟩
    case round =>
      obtain ⟨j, sk, rfl, hj, hk, hN, hW⟩ := hrel
      have HM : Hid (gk = dn.length - j) := hk
      have HW : Hid (Ow w wr f o ty c sk G bk (.slice da dn.length dc) dn) := hW
      clear hk HN HE
      by_cases hjl : j < dn.length
      · rw [drop_cons hjl, xNote] at hN
        obtain ⟨y, hy, hN⟩ := bindO hN
        obtain ⟨g, cap, hDe, cj, hg⟩ := tyAt hW.d hjl
        cases hDe
        obtain ⟨u, hu⟩ : ∃ u, dn.getD j 0 = u := ⟨_, rfl⟩
        rw [hu] at cj hy hN
        obtain ⟨b1, m1, ha1⟩ := adr_ex bk u
        obtain ⟨hb1, -, -, -, -, -, d5, hfz⟩ := hW.so.six hy ha1
        have f5 := hfz (m1 + 5)
        have HY : Hid (xAt sk u = some y) := hy
        have HA1 : Hid (adr bk u = ⟨b1, m1, none⟩) := ha1
        have HN : Hid (xNote 0 (dn.drop (j + 1)) (xSet sk u { y with nt := 0 }) = some s2) := hN
        have HW2 : Hid (Ow w (wr.setCell ⟨b1, m1 + 5, none⟩ (.int .i32 0)) f o ty c (xSet sk u { y with nt := 0 }) G bk (.slice (some ⟨g, 0, none⟩) dn.length dc) dn) := hW.put HS.out hy ha1 (by decide) (ndc_nt _)
        clear hW hy ha1 hN hfz hu
        go_wp2_with fail
        refine (at_so HW.out.so HY.out HA1.out).mono ?_
        rintro e6 w6 ⟨rfl, rfl⟩
        go_wp2_with fail
        go_roundg (dn.length - (j + 1))
        case measure => rw [HM.out]; omega
        case rel => exact ⟨j + 1, _, by go_num, by omega, rfl, HN.out, HW2.out⟩
      · obtain rfl : j = dn.length := by omega
        rw [List.drop_length, xNote] at hN
        injection hN with hN
        subst hN
        obtain ⟨-, -, c2, hfz⟩ := hW.so.cells
        have f2 := hfz (o + 2)
        have hff := hW.so.flt
        have w0 := hW.so.w0
        have hwk := HWK.out
        have HW2 : Hid (Ow w (wr.setCell ⟨f, o + 2, none⟩ (.int .i32 (sk.wk + 1))) f o ty c { sk with wk := sk.wk + 1 } G bk (.slice da dn.length dc) dn) := hW.go HS.out (hW.so.tick (by omega) (by omega)) ((Fr.refl _ wr).setCell (.inl (.inl rfl)) _)
        clear hW hfz HW
        go_wp2_with fail
        clear c2 f2 hff w0 hwk
        go_loopg [10] fx.length (fun k iv wr => ∃ (j : Nat) (sk : SX), iv = .int .i64 j ∧ j ≤ fx.length ∧ k = fx.length - j ∧ xHeld n (fx.drop j) sk = some s4 ∧ Ow w wr f o ty c sk G bk (.slice da dn.length dc) dn)
        case atStart => exact ⟨0, { sk with wk := sk.wk + 1 }, rfl, Nat.zero_le _, rfl, HH.out, HW2.out⟩
        case round =>
          obtain ⟨j, sk, rfl, hj, hk, hN, hW⟩ := hrel
          have HM : Hid (gk = fx.length - j) := hk
          have HW : Hid (Ow w wr f o ty c sk G bk (.slice da dn.length dc) dn) := hW
          clear hk HH HW2
          by_cases hjl : j < fx.length
          · rw [drop_cons hjl, xHeld] at hN
            obtain ⟨⟨s6, ar, ok6⟩, hwk, hN⟩ := bindO hN
            obtain ⟨s7, hnt, hN⟩ := bindO hN
            obtain ⟨g, cap, hDe, cj, hg⟩ := tyAt (rowKeep hW.fr HV.out HO.out) hjl
            cases hDe
            obtain ⟨u, hu⟩ : ∃ u, fx.getD j 0 = u := ⟨_, rfl⟩
            rw [hu] at cj hwk
            have HWk : Hid (xWalk n sk u = some (s6, ar, ok6)) := hwk
            have HNt : Hid (xNote 1 ar s6 = some s7) := hnt
            have HN : Hid (xHeld n (fx.drop (j + 1)) s7 = some s4) := hN
            clear hW hN hwk hnt hu
            go_wp2_with fail
            refine (walk_so HW.out.so HWk.out).mono ?_
            rintro e6 w6 ⟨A, rfl, hA, hS6, hF6⟩
            obtain ⟨aa, ac, rfl⟩ := ownsRow_len hA
            have HA : Hid (w6.ownsRow w.heap.size 155 1 (.slice aa ar.length ac) ar.length (tyC ar)) := ownsRow_base hA fun b hb => Nat.le_trans HW.out.fr.size (hA.lt b hb).1
            have HW6 : Hid (Ow w w6 f o ty c s6 G bk (.slice da dn.length dc) dn) := HW.out.go HS.out hS6 (fr2 hF6)
            have hal := row_le hA
            clear hA hS6 hF6 cj hg HW
            go_wp2_with fail
            go_loopg [13] ar.length (fun k iv wr => ∃ (i : Nat) (sk : SX), iv = .int .i64 i ∧ i ≤ ar.length ∧ k = ar.length - i ∧ xNote 1 (ar.drop i) sk = some s7 ∧ Ow w wr f o ty c sk G bk (.slice da dn.length dc) dn ∧ wr.ownsRow w.heap.size 155 1 (.slice aa ar.length ac) ar.length (tyC ar))
            case atStart => exact ⟨0, s6, rfl, Nat.zero_le _, rfl, HNt.out, HW6.out, HA.out⟩
            case round =>
              obtain ⟨i, sk, rfl, hi, hk, hN, hW, hA⟩ := hrel
              have HM2 : Hid (gk = ar.length - i) := hk
              have HW : Hid (Ow w wr f o ty c sk G bk (.slice da dn.length dc) dn) := hW
              clear hk HNt HW6 HA
              by_cases hil : i < ar.length
              · rw [drop_cons hil, xNote] at hN
                obtain ⟨y, hy, hN⟩ := bindO hN
                obtain ⟨g, cap, hDe, cj, hg⟩ := tyAt hA hil
                cases hDe
                obtain ⟨u, hu⟩ : ∃ u, ar.getD i 0 = u := ⟨_, rfl⟩
                rw [hu] at cj hy hN
                obtain ⟨b1, m1, ha1⟩ := adr_ex bk u
                obtain ⟨hb1, -, -, -, -, -, d5, hfz⟩ := hW.so.six hy ha1
                have f5 := hfz (m1 + 5)
                have HY : Hid (xAt sk u = some y) := hy
                have HA1 : Hid (adr bk u = ⟨b1, m1, none⟩) := ha1
                have HNt : Hid (xNote 1 (ar.drop (i + 1)) (xSet sk u { y with nt := 1 }) = some s7) := hN
                have HW2 : Hid (Ow w (wr.setCell ⟨b1, m1 + 5, none⟩ (.int .i32 1)) f o ty c (xSet sk u { y with nt := 1 }) G bk (.slice da dn.length dc) dn) := hW.put HS.out hy ha1 (by decide) (ndc_nt _)
                have HA2 : Hid ((wr.setCell ⟨b1, m1 + 5, none⟩ (.int .i32 1)).ownsRow w.heap.size 155 1 (.slice (some ⟨g, 0, none⟩) ar.length ac) ar.length (tyC ar)) := HS.out.kpR2 ((Fr.refl _ wr).setCell (.inl (.inr (adr_mem hW.so hy ha1))) _) hA
                clear hW hy ha1 hN hfz hu hA
                go_wp2_with fail
                refine (at_so HW.out.so HY.out HA1.out).mono ?_
                rintro e6 w6 ⟨rfl, rfl⟩
                go_wp2_with fail
                go_roundg (ar.length - (i + 1))
                case measure => rw [HM2.out]; omega
                case rel => exact ⟨i + 1, _, by go_num, by omega, rfl, HNt.out, HW2.out, HA2.out⟩
              · obtain rfl : i = ar.length := by omega
                rw [List.drop_length, xNote] at hN
                injection hN with hN
                subst hN
                clear hW hA
                go_wp2_with fail
                go_roundg (fx.length - (j + 1))
                case measure => rw [HM.out]; omega
                case rel => exact ⟨j + 1, _, by go_num, by omega, rfl, HN.out, HW.out⟩
          · obtain rfl : j = fx.length := by omega
            rw [List.drop_length, xHeld] at hN
            injection hN with hN
            subst hN
            clear hW
            go_wp2_with fail
            go_loopg [14] dn.length (fun k iv wr => ∃ (j : Nat) (sk : SX), iv = .int .i64 j ∧ j ≤ dn.length ∧ k = dn.length - j ∧ xOpenL n (dn.drop j) sk = some s5 ∧ Ow w wr f o ty c sk G bk (.slice da dn.length dc) dn)
            case atStart => exact ⟨0, sk, rfl, Nat.zero_le _, rfl, HP.out, HW.out⟩
            case round =>
              obtain ⟨j, sk, rfl, hj, hk, hN, hW⟩ := hrel
              have HM : Hid (gk = dn.length - j) := hk
              clear hk HP HW
              have HW : Hid (Ow w wr f o ty c sk G bk (.slice da dn.length dc) dn) := hW
              by_cases hjl : j < dn.length
              · rw [drop_cons hjl, xOpenL] at hN
                obtain ⟨y, hy, hN⟩ := bindO hN
                obtain ⟨⟨s6, l⟩, hpt, hN⟩ := bindO hN
                obtain ⟨s7, hao, hN⟩ := bindO hN
                obtain ⟨g, cap, hDe, cj, hg⟩ := tyAt hW.d hjl
                cases hDe
                obtain ⟨u, hu⟩ : ∃ u, dn.getD j 0 = u := ⟨_, rfl⟩
                rw [hu] at cj hy hpt hao
                obtain ⟨b1, m1, ha1⟩ := adr_ex bk u
                obtain ⟨hb1, d0, d1, -, -, -, d5, hfz⟩ := hW.so.six hy ha1
                have f1 := hfz (m1 + 1)
                obtain ⟨ov, hov⟩ : ∃ ov, (decide (y.k = 0) && decide (y.nt = 0)) = ov := ⟨_, rfl⟩
                rw [hov] at hpt
                have hor : ((y.k : Int) = 0 ∧ y.nt = 0 ∧ ov = true) ∨ ((y.k : Int) = 0 ∧ (y.nt == 0) = false ∧ ov = false) ∨ (((y.k : Int) == 0) = false ∧ ov = false) := by
                  by_cases h1 : y.k = 0
                  · by_cases h2 : y.nt = 0
                    · left; refine ⟨by omega, h2, ?_⟩; rw [← hov]; simp [h1, h2]
                    · right; left; refine ⟨by omega, by simpa using h2, ?_⟩; rw [← hov]; simp [h2]
                  · right; right; refine ⟨by simp; omega, ?_⟩; rw [← hov]; simp [h1]
                have HY : Hid (xAt sk u = some y) := hy
                have HA1 : Hid (adr bk u = ⟨b1, m1, none⟩) := ha1
                have HPt : Hid (xParts n (xSet sk u { y with op := ov }) u = some (s6, l)) := hpt
                have HAo : Hid (xAnyO u l s6 = some s7) := hao
                have HN : Hid (xOpenL n (dn.drop (j + 1)) s7 = some s5) := hN
                have HW2 : Hid (Ow w (wr.setCell ⟨b1, m1 + 1, none⟩ (.bool ov)) f o ty c (xSet sk u { y with op := ov }) G bk (.slice (some ⟨g, 0, none⟩) dn.length dc) dn) := hW.put HS.out hy ha1 (by decide) (ndc_op _)
                have hll := xParts_len hpt
                obtain ⟨g2, cap2, hDe2, cj2, hg2⟩ := tyAt HW2.out.d hjl
                cases hDe2
                rw [hu] at cj2
                generalize (y.k : Int) = kk at d0 hor
                generalize y.nt = yn at d5 hor
                clear hW hy ha1 hN hfz hu hpt hao hov
                rcases hor with ⟨rfl, rfl, rfl⟩ | ⟨rfl, hyn, rfl⟩ | ⟨hkk, rfl⟩
                all_goals
                  go_wp2_with fail
                  refine (at_so HW.out.so HY.out HA1.out).mono ?_
                  rintro e6 w6 ⟨rfl, rfl⟩
                  go_wp2_with fail
                  refine (parts_so HW2.out.so HPt.out).mono ?_
                  rintro e7 w7 ⟨rfl, hS7, hF7⟩
                  have HW7 : Hid (Ow w (w7.alloc (.cells #[.int .i32 (l[0]?.getD 0), .int .i32 (l[1]?.getD 0)] 275)) f o ty c s6 G bk (.slice (some ⟨g, 0, none⟩) dn.length dc) dn) := HW2.out.go HS.out (hS7.fr (by repeat (first | with_reducible exact Fr.refl _ _ | (with_reducible refine Fr.drew ?_) | (with_reducible refine Fr.drewN ?_ _) | (with_reducible refine Fr.alloc ?_ _) | ((with_reducible refine Fr.setCell ?_ ?_ _); rotate_left; first | exact .inl rfl | exact .inr (Nat.le_refl _) | exact .inl (Nat.le_refl _) | (focus (left; simp; done)) | (focus (left; simp; omega)) | (focus (left; omega)) | (focus (right; simp; done)) | (focus (right; simp; omega)) | (focus (right; omega))) | exact Fr.refl _ _))) ((fr2 hF7).alloc _)
                  have HB7 : Hid ((w7.alloc (.cells #[.int .i32 (l[0]?.getD 0), .int .i32 (l[1]?.getD 0)] 275)).heap[w7.heap.size]? = some (.cells #[.int .i32 (l[0]?.getD 0), .int .i32 (l[1]?.getD 0)] 275 (0, 0))) := blk_new w7 _
                  have HP7 : Hid (w.heap.size ≤ w7.heap.size) := Nat.le_trans HW2.out.fr.size hF7.size
                  clear hS7 hF7 cj cj2 d0 d1 d5 f1
                  go_wp2_with fail
                  generalize w7.alloc (.cells #[.int .i32 (l[0]?.getD 0), .int .i32 (l[1]?.getD 0)] 275) = w8 at *
                  generalize w7.heap.size = pb at *
                  go_loopg [18] l.length (fun k iv wr => ∃ (i : Nat) (sk : SX), iv = .int .i64 i ∧ i ≤ l.length ∧ k = l.length - i ∧ xAnyO u (l.drop i) sk = some s7 ∧ Ow w wr f o ty c sk G bk (.slice (some ⟨g, 0, none⟩) dn.length dc) dn ∧ wr.heap[pb]? = some (.cells #[.int .i32 (l[0]?.getD 0), .int .i32 (l[1]?.getD 0)] 275 (0, 0)))
                  case atStart => exact ⟨0, s6, rfl, Nat.zero_le _, rfl, HAo.out, HW7.out, HB7.out⟩
                  case round =>
                    obtain ⟨i, sk5, rfl, hi, hk, hN, hW, hB⟩ := hrel
                    have HM2 : Hid (gk = l.length - i) := hk
                    have HW5 : Hid (Ow w wr f o ty c sk5 G bk (.slice (some ⟨g, 0, none⟩) dn.length dc) dn) := hW
                    have HB5 : Hid (wr.heap[pb]? = some (.cells #[.int .i32 (l[0]?.getD 0), .int .i32 (l[1]?.getD 0)] 275 (0, 0))) := hB
                    clear hk HAo HW7 HB7
                    by_cases hil : i < l.length
                    · rw [drop_cons hil, xAnyO] at hN
                      obtain ⟨z, hz, hN⟩ := bindO hN
                      have ci := cellP hB (j := i) (by omega)
                      have hpb := blk_lt hB
                      obtain ⟨pj, hpj⟩ : ∃ pj, l.getD i 0 = pj := ⟨_, rfl⟩
                      rw [hpj] at ci hz
                      obtain ⟨b3, m3, ha3⟩ := adr_ex bk pj
                      obtain ⟨hb3, -, z1, -⟩ := hW.so.six hz ha3
                      have HZ : Hid (xAt sk5 pj = some z) := hz
                      have HA3 : Hid (adr bk pj = ⟨b3, m3, none⟩) := ha3
                      clear hB hz ha3 hpj
                      cases hzo : z.op with
                      | false =>
                        rw [if_neg (by simp [hzo])] at hN
                        have HNo : Hid (xAnyO u (l.drop (i + 1)) sk5 = some s7) := hN
                        rw [hzo] at z1
                        clear hN hW
                        go_wp2_with fail
                        refine (at_so HW5.out.so HZ.out HA3.out).mono ?_
                        rintro e6 w6 ⟨rfl, rfl⟩
                        go_wp2_with fail
                        go_roundg (l.length - (i + 1))
                        case measure => rw [HM2.out]; omega
                        case rel => exact ⟨i + 1, _, by go_num, by omega, rfl, HNo.out, HW5.out, HB5.out⟩
                      | true =>
                        rw [if_pos hzo] at hN
                        obtain ⟨v5, hv5, hN⟩ := bindO hN
                        have HNo : Hid (xAnyO u (l.drop (i + 1)) (xSet sk5 u { v5 with op := true }) = some s7) := hN
                        obtain ⟨hb5, -, q1, -, -, -, -, qz⟩ := hW.so.six hv5 HA1.out
                        have y1 := qz (m1 + 1)
                        have HW6 : Hid (Ow w (wr.setCell ⟨b1, m1 + 1, none⟩ (.bool true)) f o ty c (xSet sk5 u { v5 with op := true }) G bk (.slice (some ⟨g, 0, none⟩) dn.length dc) dn) := hW.put HS.out hv5 HA1.out (by decide) (ndc_op _)
                        have HB6 : Hid ((wr.setCell ⟨b1, m1 + 1, none⟩ (.bool true)).heap[pb]? = some (.cells #[.int .i32 (l[0]?.getD 0), .int .i32 (l[1]?.getD 0)] 275 (0, 0))) := HS.out.kp2 ((Fr.refl _ wr).setCell (.inl (.inr (adr_mem hW.so hv5 HA1.out))) _) HP7.out HB5.out
                        rw [hzo] at z1
                        clear hN hW hv5 qz
                        go_wp2_with fail
                        refine (at_so HW5.out.so HZ.out HA3.out).mono ?_
                        rintro e6 w6 ⟨rfl, rfl⟩
                        go_wp2_with fail
                        go_roundg (l.length - (i + 1))
                        case measure => rw [HM2.out]; omega
                        case rel => exact ⟨i + 1, _, by go_num, by omega, rfl, HNo.out, HW6.out, HB6.out⟩
                    · obtain rfl : i = l.length := by omega
                      rw [List.drop_length, xAnyO] at hN
                      injection hN with hN
                      subst hN
                      clear hW hB
                      go_wp2_with fail
                      go_roundg (dn.length - (j + 1))
                      case measure => rw [HM.out]; omega
                      case rel => exact ⟨j + 1, _, by go_num, by omega, rfl, HN.out, HW5.out⟩
              · obtain rfl : j = dn.length := by omega
                rw [List.drop_length, xOpenL] at hN
                injection hN with hN
                subst hN
                clear hW
                go_wp2_with fail
                go_ret
                exact ⟨rfl, HW.out.so, HW.out.fr⟩
end
end Go.Proofs.YtklimomeendajaaGreatDoor

/- length. -/
namespace Go.Proofs.YtklimomeendajaaGreatDoor
open Go.RowKit

section
variable {w w' wr w1 w2 : World} {f o : Nat} {ty : TypeId} {c : Array Value} {s s' s2 sk : SX} {G G' : Value} {bk bk' : List Nat} {t : Int} {x x' : ND} {D : Value} {dn : List Int}

set_option maxHeartbeats 1000000 in
set_option maxRecDepth 100000 in
theorem length_so (h : So w f o ty c s G bk) {n : Nat} {v : Int} (hx : xLength n s t = some (s', v)) :
    Calls Tryz.prog 122 #[.pointer (some ⟨f, o, none⟩), .int .i32 t] w fun e w' => e = .returned (.int .i64 v) ∧ So w' f o ty c s' G bk ∧ Fr (own2 f bk) w w' := by
  unfold xLength at hx
  obtain ⟨⟨s1, dn, ok⟩, hin, hx⟩ := bindO hx
  have HS : Hid (So w f o ty c s G bk) := h
  have HI : Hid (xInside n s t = some (s1, dn, ok)) := hin
  clear h hin
  cases ok with
  | false =>
    injection hx with hx
    injection hx with e1 e2
    subst e1 e2
    go_enter Tryz.func122, Tryz.ntmps122
    go_wp2_with fail
    refine (inside_so HS.out HI.out).mono ?_
    rintro r5 w5 ⟨D, rfl, hD, hS5, hF5⟩
    obtain ⟨da, dc, rfl⟩ := ownsRow_len hD
    have HE : Hid (So w5 f o ty c s1 G bk ∧ Fr (own2 f bk) w w5) := ⟨hS5, hF5⟩
    clear hD hS5 hF5
    go_wp2_with fail
    go_ret
    exact ⟨rfl, HE.out⟩
  | true =>
    obtain ⟨s2, hl, hx⟩ := bindO hx
    obtain ⟨⟨s3, r⟩, hf, hx⟩ := bindO hx
    obtain ⟨v', hv, hx⟩ := bindO hx
    split at hx
    case isFalse => cases hx
    case isTrue hvr =>
    injection hx with hx
    injection hx with e1 e2
    subst e1 e2
    obtain ⟨z, hz, hzn⟩ := noteOf hv
    have HL : Hid (xLens n dn s1 = some s2) := hl
    have HF : Hid (xFind n s2 t = some (s3, r)) := hf
    have HZ : Hid (xAt s3 r = some z ∧ z.nt = v') := ⟨hz, hzn⟩
    clear hl hf hv hz hzn
    go_enter Tryz.func122, Tryz.ntmps122
    go_wp2_with fail
    refine (inside_so HS.out HI.out).mono ?_
    rintro r5 w5 ⟨D, rfl, hD, hS5, hF5⟩
    obtain ⟨da, dc, rfl⟩ := ownsRow_len hD
    have HE : Hid (Ow w w5 f o ty c s1 G bk (.slice da dn.length dc) dn) := ⟨hS5, hF5, hD⟩
    have hdl := row_le hD
    clear hD hS5 hF5
    go_wp2_with fail
    go_loopg [7] dn.length (fun k iv wr => ∃ (j : Nat) (sk : SX), iv = .int .i64 j ∧ j ≤ dn.length ∧ k = dn.length - j ∧ xLens n (dn.drop j) sk = some s2 ∧ Ow w wr f o ty c sk G bk (.slice da dn.length dc) dn)
    case atStart => exact ⟨0, s1, rfl, Nat.zero_le _, rfl, HL.out, HE.out⟩
    case round =>
      obtain ⟨j, sk, rfl, hj, hk, hN, hW⟩ := hrel
      have HM : Hid (gk = dn.length - j) := hk
      have HW : Hid (Ow w wr f o ty c sk G bk (.slice da dn.length dc) dn) := hW
      clear hk HL HE
      by_cases hjl : j < dn.length
      · rw [drop_cons hjl, xLens] at hN
        obtain ⟨y, hy, hN⟩ := bindO hN
        obtain ⟨⟨s6, l⟩, hpt, hN⟩ := bindO hN
        obtain ⟨s7, han, hN⟩ := bindO hN
        obtain ⟨y7, hy7, hN⟩ := bindO hN
        obtain ⟨g, cap, hDe, cj, hg⟩ := tyAt hW.d hjl
        cases hDe
        obtain ⟨u, hu⟩ : ∃ u, dn.getD j 0 = u := ⟨_, rfl⟩
        rw [hu] at cj hy hpt han hy7 hN
        obtain ⟨b1, m1, ha1⟩ := adr_ex bk u
        obtain ⟨hb1, -, -, -, -, -, d5, hfz⟩ := hW.so.six hy ha1
        have f5 := hfz (m1 + 5)
        have HY : Hid (xAt sk u = some y) := hy
        have HA1 : Hid (adr bk u = ⟨b1, m1, none⟩) := ha1
        have HPt : Hid (xParts n (xSet sk u { y with nt := 1 }) u = some (s6, l)) := hpt
        have HAn : Hid (xAddN u l s6 = some s7) := han
        have HY7 : Hid (xAt s7 u = some y7) := hy7
        have HN : Hid (xLens n (dn.drop (j + 1)) (if 1024 < y7.nt then xSet s7 u { y7 with nt := 1024 } else s7) = some s2) := hN
        have HW2 : Hid (Ow w (wr.setCell ⟨b1, m1 + 5, none⟩ (.int .i32 1)) f o ty c (xSet sk u { y with nt := 1 }) G bk (.slice (some ⟨g, 0, none⟩) dn.length dc) dn) := hW.put HS.out hy ha1 (by decide) (ndc_nt _)
        have hll := xParts_len hpt
        obtain ⟨g2, cap2, hDe2, cj2, hg2⟩ := tyAt HW2.out.d hjl
        cases hDe2
        rw [hu] at cj2
        clear hW hy ha1 hN hfz hu hpt han hy7
        go_wp2_with fail
        refine (at_so HW.out.so HY.out HA1.out).mono ?_
        rintro e6 w6 ⟨rfl, rfl⟩
        go_wp2_with fail
        refine (parts_so HW2.out.so HPt.out).mono ?_
        rintro e7 w7 ⟨rfl, hS7, hF7⟩
        have HW7 : Hid (Ow w (w7.alloc (.cells #[.int .i32 (l[0]?.getD 0), .int .i32 (l[1]?.getD 0)] 275)) f o ty c s6 G bk (.slice (some ⟨g, 0, none⟩) dn.length dc) dn) := HW2.out.go HS.out (hS7.fr (by repeat (first | with_reducible exact Fr.refl _ _ | (with_reducible refine Fr.drew ?_) | (with_reducible refine Fr.drewN ?_ _) | (with_reducible refine Fr.alloc ?_ _) | ((with_reducible refine Fr.setCell ?_ ?_ _); rotate_left; first | exact .inl rfl | exact .inr (Nat.le_refl _) | exact .inl (Nat.le_refl _) | (focus (left; simp; done)) | (focus (left; simp; omega)) | (focus (left; omega)) | (focus (right; simp; done)) | (focus (right; simp; omega)) | (focus (right; omega))) | exact Fr.refl _ _))) ((fr2 hF7).alloc _)
        have HB7 : Hid ((w7.alloc (.cells #[.int .i32 (l[0]?.getD 0), .int .i32 (l[1]?.getD 0)] 275)).heap[w7.heap.size]? = some (.cells #[.int .i32 (l[0]?.getD 0), .int .i32 (l[1]?.getD 0)] 275 (0, 0))) := blk_new w7 _
        have HP7 : Hid (w.heap.size ≤ w7.heap.size) := Nat.le_trans HW2.out.fr.size hF7.size
        clear hS7 hF7 cj cj2 d5 f5
        go_wp2_with fail
        generalize w7.alloc (.cells #[.int .i32 (l[0]?.getD 0), .int .i32 (l[1]?.getD 0)] 275) = w8 at *
        generalize w7.heap.size = pb at *
        go_loopg [11] l.length (fun k iv wr => ∃ (i : Nat) (sk : SX), iv = .int .i64 i ∧ i ≤ l.length ∧ k = l.length - i ∧ xAddN u (l.drop i) sk = some s7 ∧ Ow w wr f o ty c sk G bk (.slice (some ⟨g, 0, none⟩) dn.length dc) dn ∧ wr.heap[pb]? = some (.cells #[.int .i32 (l[0]?.getD 0), .int .i32 (l[1]?.getD 0)] 275 (0, 0)))
        case atStart => exact ⟨0, s6, rfl, Nat.zero_le _, rfl, HAn.out, HW7.out, HB7.out⟩
        case round =>
          obtain ⟨i, sk5, rfl, hi, hk, hN, hW, hB⟩ := hrel
          have HM2 : Hid (gk = l.length - i) := hk
          have HW5 : Hid (Ow w wr f o ty c sk5 G bk (.slice (some ⟨g, 0, none⟩) dn.length dc) dn) := hW
          have HB5 : Hid (wr.heap[pb]? = some (.cells #[.int .i32 (l[0]?.getD 0), .int .i32 (l[1]?.getD 0)] 275 (0, 0))) := hB
          clear hk HAn HW7 HB7
          by_cases hil : i < l.length
          · rw [drop_cons hil, xAddN] at hN
            obtain ⟨z, hz, hN⟩ := bindO hN
            obtain ⟨q, hq, hN⟩ := bindO hN
            split at hN
            case isFalse => cases hN
            case isTrue hrg =>
            obtain ⟨hr1, hr2⟩ := hrg
            have ci := cellP hB (j := i) (by omega)
            have hpb := blk_lt hB
            obtain ⟨pj, hpj⟩ : ∃ pj, l.getD i 0 = pj := ⟨_, rfl⟩
            rw [hpj] at ci hz
            obtain ⟨b3, m3, ha3⟩ := adr_ex bk pj
            obtain ⟨hb3, -, -, -, -, -, z5, -⟩ := hW.so.six hz ha3
            obtain ⟨hb5, -, -, -, -, -, q5, qz⟩ := hW.so.six hq HA1.out
            have y5 := qz (m1 + 5)
            have HZ3 : Hid (xAt sk5 pj = some z) := hz
            have HA3 : Hid (adr bk pj = ⟨b3, m3, none⟩) := ha3
            have HAn : Hid (xAddN u (l.drop (i + 1)) (xSet sk5 u { q with nt := q.nt + z.nt }) = some s7) := hN
            have HW6 : Hid (Ow w (wr.setCell ⟨b1, m1 + 5, none⟩ (.int .i32 (q.nt + z.nt))) f o ty c (xSet sk5 u { q with nt := q.nt + z.nt }) G bk (.slice (some ⟨g, 0, none⟩) dn.length dc) dn) := hW.put HS.out hq HA1.out (by decide) (ndc_nt _)
            have HB6 : Hid ((wr.setCell ⟨b1, m1 + 5, none⟩ (.int .i32 (q.nt + z.nt))).heap[pb]? = some (.cells #[.int .i32 (l[0]?.getD 0), .int .i32 (l[1]?.getD 0)] 275 (0, 0))) := HS.out.kp2 ((Fr.refl _ wr).setCell (.inl (.inr (adr_mem hW.so hq HA1.out))) _) HP7.out HB5.out
            have hi2 : (i : Int) < 2 := by omega
            clear hN hW hq qz hz ha3 hpj hB
            go_wp2_with fail
            refine region_tail 15 mixed (by kernel_rfl) ?_
            simp only [List.take_succ_cons, List.take_zero, List.drop_succ_cons, List.drop_zero]
            repeat still_step
            still_call (at_so (HW5.out.so.fr ((Fr.refl _ _).drew)) HZ3.out HA3.out)
            repeat still_step
            refine wpStill_nil ?_
            go_wp2_with fail
            go_roundg (l.length - (i + 1))
            case measure => rw [HM2.out]; omega
            case rel => exact ⟨i + 1, _, by go_num, by omega, rfl, HAn.out, HW6.out.go HS.out (HW6.out.so.fr (by repeat (first | with_reducible exact Fr.refl _ _ | (with_reducible refine Fr.drew ?_) | (with_reducible refine Fr.drewN ?_ _) | (with_reducible refine Fr.alloc ?_ _) | ((with_reducible refine Fr.setCell ?_ ?_ _); rotate_left; first | exact .inl rfl | exact .inr (Nat.le_refl _) | exact .inl (Nat.le_refl _) | (focus (left; simp; done)) | (focus (left; simp; omega)) | (focus (left; omega)) | (focus (right; simp; done)) | (focus (right; simp; omega)) | (focus (right; omega))) | exact Fr.refl _ _))) (by repeat (first | with_reducible exact Fr.refl _ _ | (with_reducible refine Fr.drew ?_) | (with_reducible refine Fr.drewN ?_ _) | (with_reducible refine Fr.alloc ?_ _) | ((with_reducible refine Fr.setCell ?_ ?_ _); rotate_left; first | exact .inl rfl | exact .inr (Nat.le_refl _) | exact .inl (Nat.le_refl _) | (focus (left; simp; done)) | (focus (left; simp; omega)) | (focus (left; omega)) | (focus (right; simp; done)) | (focus (right; simp; omega)) | (focus (right; omega))))), HB6.out⟩
          · obtain rfl : i = l.length := by omega
            rw [List.drop_length, xAddN] at hN
            injection hN with hN
            subst hN
            obtain ⟨hb5, -, -, -, -, -, q5, qz⟩ := hW.so.six HY7.out HA1.out
            have y5 := qz (m1 + 5)
            by_cases hgt : 1024 < y7.nt
            · have HNN := HN.out
              rw [if_pos hgt] at HNN
              have HN2 : Hid _ := HNN
              have HW6 : Hid (Ow w (wr.setCell ⟨b1, m1 + 5, none⟩ (.int .i32 1024)) f o ty c (xSet sk5 u { y7 with nt := 1024 }) G bk (.slice (some ⟨g, 0, none⟩) dn.length dc) dn) := hW.put HS.out HY7.out HA1.out (by decide) (ndc_nt _)
              clear hW hB qz HNN HN
              generalize y7.nt = yn at q5 hgt
              go_wp2_with fail
              go_roundg (dn.length - (j + 1))
              case measure => rw [HM.out]; omega
              case rel => exact ⟨j + 1, _, by go_num, by omega, rfl, HN2.out, HW6.out⟩
            · have HNN := HN.out
              rw [if_neg hgt] at HNN
              have HN2 : Hid _ := HNN
              clear hW hB qz HNN HN
              generalize y7.nt = yn at q5 hgt
              go_wp2_with fail
              go_roundg (dn.length - (j + 1))
              case measure => rw [HM.out]; omega
              case rel => exact ⟨j + 1, _, by go_num, by omega, rfl, HN2.out, HW5.out⟩
      · obtain rfl : j = dn.length := by omega
        rw [List.drop_length, xLens] at hN
        injection hN with hN
        subst hN
        clear hW
        go_wp2_with fail
        refine (find_so HW.out.so HF.out).mono ?_
        rintro e6 w6 ⟨rfl, hS6, hF6⟩
        obtain ⟨hz, hzn⟩ := HZ.out
        obtain ⟨b1, m1, ha1⟩ := adr_ex bk r
        obtain ⟨hb1, -, -, -, -, -, d5, -⟩ := hS6.six hz ha1
        rw [hzn] at d5
        have HS6 : Hid (So w6 f o ty c s3 G bk) := hS6
        have HF6 : Hid (Fr (own2 f bk) w w6) := HW.out.fr.trans (fr2 (f := f) hF6) (fun _ h => .inl h)
        have HA1 : Hid (adr bk r = ⟨b1, m1, none⟩) := ha1
        have HZ1 : Hid (xAt s3 r = some z) := hz
        clear hS6 hF6 ha1 hz hzn
        go_wp2_with fail
        refine (at_so HS6.out HZ1.out HA1.out).mono ?_
        rintro e7 w7 ⟨rfl, rfl⟩
        go_wp2_with fail
        go_ret
        exact ⟨rfl, HS6.out, HF6.out⟩
end
end Go.Proofs.YtklimomeendajaaGreatDoor

/- Text, New. -/
namespace Go.Proofs.YtklimomeendajaaGreatDoor
open Go.RowKit

section
variable {w w' w1 w2 : World} {f o : Nat} {ty : TypeId} {c : Array Value} {s s' s2 : SX} {G G' : Value} {bk bk' : List Nat} {t : Int} {x x' : ND}

theorem Tryz.undU8 : Tryz.prog.underlying 5 = some (.int .u8) := by kernel_rfl

set_option maxHeartbeats 1000000 in
set_option maxRecDepth 100000 in
theorem text_so (h : So w f o ty c s G bk) {n : Nat} {tx : List UInt8} (hx : xTxt n s t = some tx) :
    Calls Tryz.prog 75 #[.pointer (some ⟨f, o, none⟩), .int .i32 t] w fun e w' => e = .returned (.string (bz tx)) ∧ Fr (own2 f bk) w w' := by
  unfold xTxt at hx
  obtain ⟨⟨s1, v⟩, hl, hx⟩ := bindO hx
  have HS : Hid (So w f o ty c s G bk) := h
  have HL : Hid (xLength n s t = some (s1, v)) := hl
  clear h hl
  by_cases hv : v > 1023
  · rw [if_pos hv] at hx
    injection hx with hx
    subst hx
    go_enter Tryz.func75, Tryz.ntmps75
    go_wp2_with fail
    refine (length_so HS.out HL.out).mono ?_
    rintro e1 w1 ⟨rfl, hS1, hF1⟩
    have HF1 : Hid (Fr (own2 f bk) w w1) := hF1
    clear hS1 hF1
    go_wp2_with fail
    go_ret
    exact ⟨rfl, HF1.out⟩
  · rw [if_neg hv] at hx
    obtain ⟨⟨s2, r⟩, hf, hx⟩ := bindO hx
    obtain ⟨y, hy, hx⟩ := bindO hx
    injection hx with hx
    subst hx
    have HF : Hid (xFind n s1 t = some (s2, r)) := hf
    have HY : Hid (xWr n s2 r [] [] = some y) := hy
    clear hf hy
    go_enter Tryz.func75, Tryz.ntmps75
    go_wp2_with fail
    refine (length_so HS.out HL.out).mono ?_
    rintro e1 w1 ⟨rfl, hS1, hF1⟩
    have HS1 : Hid (So w1 f o ty c s1 G bk) := hS1
    have HF1 : Hid (Fr (own2 f bk) w w1) := hF1
    clear hS1 hF1
    go_wp2_with fail
    have hB0 := blk_new w1 (.cells #[.pointer (some ⟨f, o, none⟩), .slice none 0 0, .slice none 0 0] 225)
    have HS1a : Hid (So (w1.alloc (.cells #[.pointer (some ⟨f, o, none⟩), .slice none 0 0, .slice none 0 0] 225)) f o ty c s1 G bk) := HS1.out.fr ((Fr.refl _ _).alloc _)
    refine (find_so HS1a.out HF.out).mono ?_
    rintro e2 w2 ⟨rfl, hS2, hF2⟩
    have HW2 : Hid (Wt w1.heap.size f o ty c G bk w2 s2 (.slice none 0 0) (.slice none 0 0) [] []) :=
      ⟨HS1.out.kp hF2 (Nat.le_refl _) hB0, hS2, World.ownsRow_nil _ _ _ _, World.ownsRow_nil _ _ _ _, (fun b h => by cases h), fun b h => HS1.out.own_lt b h⟩
    have HF2 : Hid (Fr (own2 f bk) w w2) := (HF1.out.alloc _).trans (fr2 (f := f) hF2) (fun _ h => .inl h)
    have hge := HF1.out.size
    clear hS2 hF2 hB0 HS1a
    go_wp2_with fail
    refine (write_all n s2 r [] [] y HY.out w2 _ _ HW2.out).mono ?_
    rintro e3 w3 ⟨rfl, U3, T3, hW3, hF3, hO3⟩
    have HF3 : Hid (Fr (own2 f bk) w w3) := HF2.out.trans hF3 (fun b hb => by
      rcases hb with rfl | hb | hb | hb
      · exact .inr hge
      · exact .inl (.inr hb)
      · cases hb
      · cases hb)
    obtain ⟨⟨-, -, k2⟩, -⟩ := hW3.cells
    have hq3 := hW3.lt
    have HC := run_conv (P := Tryz.prog) (src := 223) (dst := 9) Tryz.underlying223 Tryz.undU8 Tryz.underlying9 hW3.t
    obtain ⟨ta, tc, rfl⟩ := ownsRow_len hW3.t
    clear hW3 hF3 hO3
    go_wp2_with fail
    go_ret
    exact ⟨rfl, HF3.out⟩

theorem results_cell {fn : Func} {p : Tmp} {ty : TypeId} (h : fn.results = #[.cell p ty]) (tmps : Array Value) (P : Program) (w : World) :
    (results fn tmps).run P w = ((asAddr (tmps.getD p undef)).run P w).andThen fun a w₁ => (loadVar ty a).run P w₁ := by
  simp only [results, h]
  simp [Sem.run_bind, Result.andThen]

theorem so0 {w : World} {f0 : Nat} (hb : w.heap[f0]? = some (.cells #[.slice none 0 0, .int .i64 0, .int .i32 0] 150 (0, 0))) : So w f0 0 150 #[.slice none 0 0, .int .i64 0, .int .i32 0] ⟨[], 0⟩ (.slice none 0 0) [] :=
  ⟨hb, by decide, World.ownsRow_nil _ _ _ _, (fun h => by cases h), Nat.le_refl _, by decide, List.nodup_nil, (fun b h => by cases h), (fun t b h => by simp at h), by decide, by decide, by decide⟩

set_option maxHeartbeats 1000000 in
set_option maxRecDepth 100000 in
theorem new_so (w : World) :
    Calls Tryz.prog 72 #[] w fun e w' => ∃ G bk f0, e = .returned (.agg #[G, .int .i64 2, .int .i32 0]) ∧ So w' f0 0 150 #[.slice none 0 0, .int .i64 0, .int .i32 0] xNew G bk ∧ Fr (fun _ => False) w w' ∧ ∀ b, sown f0 G bk b → w.heap.size ≤ b := by
  go_enter Tryz.func72, Tryz.ntmps72
  go_wp2_with fail
  have hB : ((w.alloc (.cells #[.slice none 0 0, .int .i64 0, .int .i32 0] 150)).alloc (.cells #[.slice none 0 0, .int .i64 0, .int .i32 0] 150)).heap[w.heap.size + 1]? = some (.cells #[.slice none 0 0, .int .i64 0, .int .i32 0] 150 (0, 0)) := by
    have := blk_new (w.alloc (.cells #[.slice none 0 0, .int .i64 0, .int .i32 0] 150)) (.cells #[.slice none 0 0, .int .i64 0, .int .i32 0] 150)
    simpa using this
  have hR : ((w.alloc (.cells #[.slice none 0 0, .int .i64 0, .int .i32 0] 150)).alloc (.cells #[.slice none 0 0, .int .i64 0, .int .i32 0] 150)).heap[w.heap.size]? = some (.cells #[.slice none 0 0, .int .i64 0, .int .i32 0] 150 (0, 0)) := by
    rw [Below.heap_alloc _ _ _ (by simp)]
    exact blk_new w _
  have hF : Fr (fun _ => False) w ((w.alloc (.cells #[.slice none 0 0, .int .i64 0, .int .i32 0] 150)).alloc (.cells #[.slice none 0 0, .int .i64 0, .int .i32 0] 150)) := (by repeat (first | with_reducible exact Fr.refl _ _ | (with_reducible refine Fr.drew ?_) | (with_reducible refine Fr.drewN ?_ _) | (with_reducible refine Fr.alloc ?_ _) | ((with_reducible refine Fr.setCell ?_ ?_ _); rotate_left; first | exact .inl rfl | exact .inr (Nat.le_refl _) | exact .inl (Nat.le_refl _) | (focus (left; simp; done)) | (focus (left; simp; omega)) | (focus (left; omega)) | (focus (right; simp; done)) | (focus (right; simp; omega)) | (focus (right; omega))) | exact Fr.refl _ _))
  generalize (w.alloc (.cells #[.slice none 0 0, .int .i64 0, .int .i32 0] 150)).alloc (.cells #[.slice none 0 0, .int .i64 0, .int .i32 0] 150) = wa at *
  have HF : Hid (Fr (fun _ => False) w wa) := hF
  have HR : Hid (wa.heap[w.heap.size]? = some (.cells #[.slice none 0 0, .int .i64 0, .int .i32 0] 150 (0, 0))) := hR
  have HS0 : Hid (So wa (w.heap.size + 1) 0 150 #[.slice none 0 0, .int .i64 0, .int .i32 0] ⟨[], 0⟩ (.slice none 0 0) []) := so0 hB
  clear hB hR hF
  refine (add_at HS0.out 1 1 0 0 rfl (s' := ⟨[{ k := 1 }], 0⟩) (t := 0) rfl).mono ?_
  rintro e1 w1 ⟨rfl, G1, b1, hS1, hF1, hO1⟩
  have nw : ∀ b, sown (w.heap.size + 1) (.slice none 0 0) [] b → b = w.heap.size + 1 := by
    rintro b (h | h | h)
    · exact h
    · cases h
    · cases h
  have HS1 : Hid (So w1 (w.heap.size + 1) 0 150 #[.slice none 0 0, .int .i64 0, .int .i32 0] ⟨[{ k := 1 }], 0⟩ G1 ([] ++ b1)) := hS1
  have HR1 : Hid (w1.heap[w.heap.size]? = some (.cells #[.slice none 0 0, .int .i64 0, .int .i32 0] 150 (0, 0))) := (hF1.block _ (blk_lt HR.out) (fun h => by have := nw _ h; omega)).trans HR.out
  have HF1 : Hid (Fr (fun _ => False) w w1) := HF.out.trans hF1 (fun b hb => by have := nw b hb; right; omega)
  have HO1 : Hid (∀ b, sown (w.heap.size + 1) G1 ([] ++ b1) b → w.heap.size + 1 ≤ b) := fun b hb => by
    rcases hO1 b hb with h | h
    · have := nw b h; omega
    · have := blk_lt HR.out; have := HS0.out.flt; omega
  clear hS1 hF1 hO1 HS0 HR HF nw
  go_wp2_with fail
  refine (add_at HS1.out 2 2 0 0 rfl (s' := xNew) (t := 1) rfl).mono ?_
  rintro e2 w2 ⟨rfl, G2, b2, hS2, hF2, hO2⟩
  have HS2 : Hid (So w2 (w.heap.size + 1) 0 150 #[.slice none 0 0, .int .i64 0, .int .i32 0] xNew G2 ([] ++ b1 ++ b2)) := hS2
  have HR2 : Hid (w2.heap[w.heap.size]? = some (.cells #[.slice none 0 0, .int .i64 0, .int .i32 0] 150 (0, 0))) := (hF2.block _ (blk_lt HR1.out) (fun h => by have := HO1.out _ h; omega)).trans HR1.out
  have HF2 : Hid (Fr (fun _ => False) w w2) := HF1.out.trans hF2 (fun b hb => by have := HO1.out b hb; right; omega)
  have HO2 : Hid (∀ b, sown (w.heap.size + 1) G2 ([] ++ b1 ++ b2) b → w.heap.size + 1 ≤ b) := fun b hb => by
    rcases hO2 b hb with h | h
    · exact HO1.out b h
    · have := blk_lt HR1.out; omega
  clear hS2 hF2 hO2 HS1 HR1 HF1 HO1
  obtain ⟨ga, gc, rfl⟩ := ownsRow_len HS2.out.row
  obtain ⟨k0, k1, k2, kz⟩ := HS2.out.cells
  have hl2 := HS2.out.flt
  obtain ⟨r0, r1, r2, z0, z1, z2⟩ := cells3 HR2.out
  have hr2 := blk_lt HR2.out
  have k1' : w2.cell? ⟨w.heap.size + 1, 1, none⟩ = some (.int .i64 2) := k1
  have k2' : w2.cell? ⟨w.heap.size + 1, 2, none⟩ = some (.int .i32 0) := k2
  clear kz k1 k2
  go_wp2_with fail
  (try simp only [Exit.inBlock, Exit.then])
  refine bodyPost_ret (v := .agg #[.slice ga ([] ++ b1 ++ b2).length gc, .int .i64 2, .int .i32 0]) ?_ rfl ⟨.slice ga ([] ++ b1 ++ b2).length gc, [] ++ b1 ++ b2, w.heap.size + 1, rfl, HS2.out.frX (X := fun b => b = w.heap.size) (by repeat (first | with_reducible exact Fr.refl _ _ | (with_reducible refine Fr.drew ?_) | (with_reducible refine Fr.drewN ?_ _) | (with_reducible refine Fr.alloc ?_ _) | ((with_reducible refine Fr.setCell ?_ ?_ _); rotate_left; first | exact .inl rfl | exact .inr (Nat.le_refl _) | exact .inl (Nat.le_refl _) | (focus (left; simp; done)) | (focus (left; simp; omega)) | (focus (left; omega)) | (focus (right; simp; done)) | (focus (right; simp; omega)) | (focus (right; omega))))) (fun b hb h => by have := HO2.out b h; omega), (by repeat (first | with_reducible exact HF2.out | (with_reducible refine Fr.drew ?_) | (with_reducible refine Fr.drewN ?_ _) | (with_reducible refine Fr.alloc ?_ _) | ((with_reducible refine Fr.setCell ?_ ?_ _); rotate_left; first | exact .inl rfl | exact .inr (Nat.le_refl _) | exact .inl (Nat.le_refl _) | (focus (left; simp; done)) | (focus (left; simp; omega)) | (focus (left; omega)) | (focus (right; simp; done)) | (focus (right; simp; omega)) | (focus (right; omega))))), fun b hb => by have := HO2.out b hb; omega⟩
  rw [results_cell rfl]
  go_simp
end
end Go.Proofs.YtklimomeendajaaGreatDoor
