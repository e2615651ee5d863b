import Derived.Test.YtnbhnjokpcdnnaaGreatDoorQA3
import Derived.Test.YtnbhnjokpcdnnaaGreatDoorQB2
import Derived.Test.YtnbhnjokpcdnnaaGreatDoorQB3
set_option linter.unusedSimpArgs false
set_option linter.unusedVariables false

namespace Go.Proofs.YtnbhnjokpcdnnaaGreatDoor
open Go.RowKit

theorem inB_true {t s : List UInt8} {i : Nat} (h : standsAt t s i = true) : inB t s = true := by
  unfold inB
  rw [List.any_eq_true]
  refine ⟨i, ?_, h⟩
  simp only [standsAt, Bool.and_eq_true, decide_eq_true_eq] at h
  rw [List.mem_range]
  omega

theorem inB_false {t s : List UInt8} (h : ∀ i, i + t.length ≤ s.length → standsAt t s i = false) : inB t s = false := by
  unfold inB
  rw [List.any_eq_false]
  intro i _ hi
  have : i + t.length ≤ s.length := by
    simp only [standsAt, Bool.and_eq_true, decide_eq_true_eq] at hi
    exact hi.1
  rw [h i this] at hi
  cases hi

set_option maxHeartbeats 1600000 in
set_option maxRecDepth 100000 in
theorem within_ref (t s : List UInt8) (w : World) (ht : t.length ≤ 1000000) (hs : s.length ≤ 1000000) :
    Calls Tryz.prog 19 #[.string (bs t), .string (bs s)] w fun e w' => e = .returned (.bool (inB t s)) ∧ w' = w := by
  go_enter Tryz.func19, Tryz.ntmps19
  go_wp2_with fail
  go_loopg [5] (s.length + 1) (fun m iv wr => ∃ k : Nat, iv = .int .i64 k ∧ k ≤ s.length + 1 ∧ m = s.length + 1 - k ∧ (∀ j, j < k → standsAt t s j = false) ∧ wr = w)
  case atStart => exact ⟨0, rfl, Nat.zero_le _, rfl, fun j hj => by omega, rfl⟩
  case round =>
    obtain ⟨k, rfl, hk, hm, hno, rfl⟩ := hrel
    have HM : Hid (gk = s.length + 1 - k) := hm
    have HNO : Hid (∀ j, j < k → standsAt t s j = false) := hno
    clear hm hno
    by_cases hle : k + t.length ≤ s.length
    · obtain ⟨i, hi⟩ : ∃ i, i = k + t.length := ⟨_, rfl⟩
      have hE : (k : Int) + (t.length : Int) = (i : Int) := by omega
      have hge : k ≤ i := by omega
      have hil : i ≤ s.length := by omega
      have hex : (bs s).extract k i = bs ((s.drop k).take t.length) := by rw [bs_extract, hi, Nat.add_sub_cancel_left]
      have HS : Hid (standsAt t s k = ((s.drop k).take t.length == t)) := by
        show _ = _
        unfold standsAt
        rw [decide_eq_true hle, Bool.true_and]
      clear hi
      cases hbe : ((s.drop k).take t.length == t) with
      | true =>
        have HR : Hid (inB t s = true) := inB_true (by rw [HS.out, hbe])
        clear HS HNO hle
        generalize (s.drop k).take t.length = y at *
        go_wp2_with fail
        go_ret
        rw [HR.out]
        exact ⟨rfl, rfl⟩
      | false =>
        have HN2 : Hid (∀ j, j < k + 1 → standsAt t s j = false) := fun j hj => by
          by_cases e : j = k
          · subst e; rw [HS.out, hbe]
          · exact HNO.out j (by omega)
        clear HS HNO hle
        generalize (s.drop k).take t.length = y at *
        go_wp2_with fail
        go_roundg (s.length + 1 - (k + 1))
        case measure => rw [HM.out]; omega
        case rel => exact ⟨k + 1, by go_num, by omega, rfl, HN2.out, rfl⟩
    · have HR : Hid (inB t s = false) := inB_false (fun i hi => HNO.out i (by omega))
      clear HNO
      go_wp2_with fail
      go_ret
      rw [HR.out]
      exact ⟨rfl, rfl⟩

set_option maxHeartbeats 1600000 in
set_option maxRecDepth 100000 in
theorem run_ref (s set : List UInt8) (w : World) (hs : s.length ≤ 1000000) (hset : set.length ≤ 1000000) :
    Calls Tryz.prog 18 #[.string (bs s), .string (bs set)] w fun e w' => e = .returned (.int .i64 (runOf s set).length) ∧ w' = w := by
  go_enter Tryz.func18, Tryz.ntmps18
  go_wp2_with fail
  go_loopg [5] (runOf s set).length (fun m iv wr => ∃ k : Nat, iv = .int .i64 k ∧ k ≤ (runOf s set).length ∧ m = (runOf s set).length - k ∧ wr = w)
  case atStart => exact ⟨0, rfl, Nat.zero_le _, rfl, rfl⟩
  case round =>
    obtain ⟨k, rfl, hk, hm, rfl⟩ := hrel
    have HM : Hid (gk = (runOf s set).length - k) := hm
    clear hm
    by_cases hlt : k < (runOf s set).length
    · obtain ⟨h1, h2, h3⟩ := takeWhile_at s k hlt
      obtain ⟨i, hi⟩ : ∃ i, i = k + 1 := ⟨_, rfl⟩
      have hE : (k : Int) + 1 = (i : Int) := by omega
      have hge : k ≤ i := by omega
      have hil : i ≤ s.length := by omega
      have hex : (bs s).extract k i = bs [s[k]] := by
        rw [bs_extract, hi, Nat.add_sub_cancel_left, List.drop_eq_getElem_cons h1]
        rfl
      have hd0 : decide ((k : Int) < (s.length : Int)) = true := decide_eq_true (by omega)
      have HKL : Hid (k + 1 ≤ (runOf s set).length) := by show _ ≤ _; omega
      have HI : Hid (i = k + 1) := hi
      clear h2 hlt hi
      go_wp2_with fail
      refine (within_ref [s[k]] set _ (by simp) hset).mono ?_
      rintro e w' ⟨rfl, rfl⟩
      go_wp2_with fail
      go_roundg ((runOf s set).length - (k + 1))
      case measure => have := HKL.out; rw [HM.out]; omega
      case rel => exact ⟨k + 1, by rw [HI.out], HKL.out, rfl, rfl⟩
    · have HKK : Hid (k = (runOf s set).length) := by show _ = _; omega
      clear HM hlt hk
      by_cases h1 : k < s.length
      · have hst' : inB [s[k]] set = false := by
          have h3 := HKK.out
          subst h3
          exact takeWhile_stop (q := fun c => inB [c] set) s h1
        obtain ⟨i, hi⟩ : ∃ i, i = k + 1 := ⟨_, rfl⟩
        have hE : (k : Int) + 1 = (i : Int) := by omega
        have hge : k ≤ i := by omega
        have hil : i ≤ s.length := by omega
        have hex : (bs s).extract k i = bs [s[k]] := by
          rw [bs_extract, hi, Nat.add_sub_cancel_left, List.drop_eq_getElem_cons h1]
          rfl
        have hd0 : decide ((k : Int) < (s.length : Int)) = true := decide_eq_true (by omega)
        clear hi
        go_wp2_with fail
        refine (within_ref [s[k]] set _ (by simp) hset).mono ?_
        rintro e w' ⟨rfl, rfl⟩
        go_wp2_with fail
        go_ret
        rw [← HKK.out]
        exact ⟨rfl, rfl⟩
      · have hd0 : decide ((k : Int) < (s.length : Int)) = false := decide_eq_false (by omega)
        go_wp2_with fail
        go_ret
        rw [← HKK.out]
        exact ⟨rfl, rfl⟩

theorem inB_one (c : UInt8) (s : List UInt8) : inB [c] s = s.contains c := by
  rw [Bool.eq_iff_iff]
  constructor
  · intro h
    unfold inB at h
    rw [List.any_eq_true] at h
    obtain ⟨i, _, hi⟩ := h
    simp only [standsAt, Bool.and_eq_true, decide_eq_true_eq, beq_iff_eq, List.length_cons, List.length_nil] at hi
    have hlt : i < s.length := by omega
    have h2 := hi.2
    rw [List.drop_eq_getElem_cons hlt] at h2
    simp only [Nat.zero_add, List.take_succ_cons, List.take_zero, List.cons.injEq, and_true] at h2
    rw [List.contains_iff_mem]
    exact h2 ▸ List.getElem_mem hlt
  · intro h
    rw [List.contains_iff_mem] at h
    obtain ⟨i, hi, rfl⟩ := List.mem_iff_getElem.1 h
    refine inB_true (i := i) ?_
    simp only [standsAt, Bool.and_eq_true, decide_eq_true_eq, beq_iff_eq, List.length_cons, List.length_nil]
    refine ⟨by omega, ?_⟩
    rw [List.drop_eq_getElem_cons hi]
    rfl

theorem dig_of {c : UInt8} (h : inB [c] digitsR = true) : 48 ≤ c.toNat ∧ c.toNat ≤ 57 := by
  rw [inB_one] at h
  simp only [digitsR, List.contains_cons, List.contains_nil, Bool.or_false, Bool.or_eq_true, beq_iff_eq] at h
  rcases h with rfl | rfl | rfl | rfl | rfl | rfl | rfl | rfl | rfl | rfl <;> decide

end Go.Proofs.YtnbhnjokpcdnnaaGreatDoor

namespace Go.Proofs.YtnbhnjokpcdnnaaGreatDoor
open Go.RowKit

def rwCells (l : List RW) : List Value := l.flatMap fun x => [.string (bs x.text), .int .i64 x.num, .bool x.isName]

theorem rwCells_snoc (l : List RW) (x : RW) : rwCells (l ++ [x]) = rwCells l ++ [.string (bs x.text), .int .i64 x.num, .bool x.isName] := by simp [rwCells]

theorem Tryz.infoRW : (Tryz.prog.info? 65).map (fun i => (i.zero, i.size, i.bytes)) = some (some (.agg #[.string (bs []), .int .i64 0, .bool false]), 3, 32) := by kernel_rfl
theorem slRW : SlT Tryz.prog 45 65 (.agg #[.string (bs []), .int .i64 0, .bool false]) 3 32 := ⟨Tryz.underlying45, info_parts Tryz.infoRW, rfl, by decide⟩

theorem runOf_le (s set : List UInt8) : (runOf s set).length ≤ s.length := takeWhile_len s

theorem valR_bd : ∀ (l : List UInt8) (v r : Int), valR l v = some r → v ≤ 999999 → r ≤ 999999
  | [], v, r, h, hv => by simp [valR] at h; omega
  | c :: l, v, r, h, _ => by
    unfold valR at h
    split at h
    · cases h
    · exact valR_bd l _ r h (by omega)

theorem valR_step {s : List UInt8} {dn j : Nat} (hj : j < dn) (hs : j < s.length) (v : Int) : valR ((s.take dn).drop j) v = if 999999 < 10 * v + (s[j].toNat : Int) - 48 then none else valR ((s.take dn).drop (j + 1)) (10 * v + (s[j].toNat : Int) - 48) := by
  rw [List.drop_eq_getElem_cons (by simp; omega)]
  simp [valR]

theorem valR_end {s : List UInt8} {dn : Nat} (v : Int) : valR ((s.take dn).drop dn) v = some v := by
  rw [List.drop_eq_nil_of_le (by simp; omega)]
  rfl

theorem within_refB (T S : ByteArray) (t s : List UInt8) (hT : T = bs t) (hS : S = bs s) (w : World) (ht : t.length ≤ 1000000) (hs : s.length ≤ 1000000) :
    Calls Tryz.prog 19 #[.string T, .string S] w fun e w' => e = .returned (.bool (inB t s)) ∧ w' = w := by
  subst hT
  subst hS
  exact within_ref t s w ht hs

theorem bs_cat (a b c : List UInt8) : bs a ++ bs b ++ bs c = bs (a ++ b ++ c) := by
  rw [ByteArray.mk_append_mk, ByteArray.mk_append_mk]

theorem lett_pos {s : List UInt8} (hL : 0 < (runOf s lettersR).length) : 0 < (runOf s lettDigR).length := by
  cases s with
  | nil => simp [runOf] at hL
  | cons a s =>
    obtain ⟨h1, _, h3⟩ := takeWhile_at (q := fun c => inB [c] lettersR) (a :: s) 0 hL
    have h4 : (fun c => inB [c] lettDigR) a = true := by
      simp only [List.getElem_cons_zero] at h3
      show inB [a] lettDigR = true
      rw [inB_one] at h3 ⊢
      have hsub : lettDigR = lettersR ++ digitsR := by decide
      rw [hsub, List.contains_iff_mem, List.mem_append]
      rw [List.contains_iff_mem] at h3
      exact .inl h3
    unfold runOf
    rw [List.takeWhile_cons_of_pos (p := fun c => inB [c] lettDigR) h4]
    simp

/-- How the words' loop stands. -/
def Wd (w : World) (s : List UInt8) (out : List RW) (ov : Value) (wr : World) : Prop :=
  wr.ownsRow w.heap.size 65 3 ov out.length (rwCells out) ∧ Fr (fun _ => False) w wr ∧ out.length + s.length ≤ 240

theorem Wd.app {w w1 : World} {s s' : List UInt8} {out : List RW} {ov ov' : Value} {wr : World} {x : RW} (h : Wd w s out ov wr) (o : Obj) (hown : w1.ownsRow w.heap.size 65 3 ov' (out.length + 1) (rwCells out ++ [.string (bs x.text), .int .i64 x.num, .bool x.isName])) (hg : (wr.alloc o).grownBy w1 ov.ownBlock)
    (hs : s'.length < s.length) : Wd w s' (out ++ [x]) ov' w1 := by
  obtain ⟨h1, h2, h3⟩ := h
  refine ⟨?_, (h2.alloc o).grown hg (fun k hk => .inr (h1.lt k hk).1), ?_⟩
  · rw [rwCells_snoc, List.length_append]
    exact hown
  · rw [List.length_append]
    simp
    omega

set_option maxHeartbeats 6400000 in
set_option maxRecDepth 100000 in
theorem words_ref (t : List UInt8) (n : Nat) (x : List RW × Bool) (hx : wordsR n t [] = some x) (w : World) (hlen : t.length ≤ 240) :
    Calls Tryz.prog 10 #[.string (bs t)] w fun e w' => Fr (fun _ => False) w w' ∧ x.1.length ≤ 240 ∧ ((x.2 = false ∧ e = .returned (.tuple #[.slice none 0 0, .bool false])) ∨ (x.2 = true ∧ ∃ L, e = .returned (.tuple #[L, .bool true]) ∧ w'.ownsRow 0 65 3 L x.1.length (rwCells x.1))) := by
  have HX : Hid (wordsR n t [] = some x) := hx
  clear hx
  go_enter Tryz.func10, Tryz.ntmps10
  go_wp2_with fail
  go_loopg [0, 4] n (fun m sv ov wr => ∃ (s : List UInt8) (out : List RW), sv = .string (bs s) ∧ wordsR m s out = some x ∧ Wd w s out ov wr)
  case atStart => exact ⟨t, [], rfl, HX.out, World.ownsRow_nil _ _ _ _, Fr.refl _ _, by simpa using hlen⟩
  case round =>
    obtain ⟨s, out, rfl, hs, hW⟩ := hrel
    clear HX
    obtain ⟨oa, oc, rfl⟩ := ownsRow_len hW.1
    have hb1 := hW.2.2
    cases gk with
    | zero => simp [wordsR] at hs
    | succ k =>
      unfold wordsR at hs
      split at hs
      · rename_i h0
        have HR : Hid (x = (out, true)) := by show x = _; simpa using hs.symm
        have hs0 : s = [] := List.eq_nil_of_length_eq_zero h0
        subst hs0
        clear hs h0
        go_wp2_with fail
        go_ret2
        rw [HR.out]
        exact ⟨hW.2.1, by simp at hb1; exact hb1, .inr ⟨rfl, _, rfl, ownsRow_base hW.1 (fun _ _ => Nat.zero_le _)⟩⟩
      rename_i h0
      have hpos : 0 < s.length := by omega
      have HW : Hid (Wd w s out (.slice oa out.length oc) wr) := hW
      have l1 := runOf_le s blanksR
      have l2 := runOf_le s digitsR
      have l3 := runOf_le s lettersR
      have l4 := runOf_le s lettDigR
      split at hs
      · rename_i hB
        have HS : Hid (wordsR k (s.drop (runOf s blanksR).length) out = some x) := hs
        have hex : (bs s).extract (runOf s blanksR).length s.length = bs (s.drop (runOf s blanksR).length) := by
          rw [bs_extract, List.take_of_length_le (by simp)]
        have HW2 : Hid (Wd w (s.drop (runOf s blanksR).length) out (.slice oa out.length oc) wr) := ⟨hW.1, hW.2.1, by simp; omega⟩
        clear hs hW HW
        go_wp2_with fail
        refine (run_ref s blanksR _ (by omega) (by decide)).mono ?_
        rintro e w' ⟨rfl, rfl⟩
        go_wp2_with fail
        refine (run_ref s digitsR _ (by omega) (by decide)).mono ?_
        rintro e w' ⟨rfl, rfl⟩
        go_wp2_with fail
        refine (run_ref s lettersR _ (by omega) (by decide)).mono ?_
        rintro e w' ⟨rfl, rfl⟩
        go_wp2_with fail
        go_roundg k
        case measure => omega
        case rel => exact ⟨_, out, rfl, HS.out, HW2.out⟩
      rename_i hB
      have hB0 : (runOf s blanksR).length = 0 := by omega
      split at hs
      · rename_i hD
        generalize hdn : (runOf s digitsR).length = dn at *
        have hdig : Hid (∀ j, (hj : j < dn) → ∃ (h' : j < s.length), 48 ≤ s[j].toNat ∧ s[j].toNat ≤ 57) := fun j hj => by
          obtain ⟨h1, _, h3⟩ := takeWhile_at (q := fun c => inB [c] digitsR) s j (by rw [← hdn] at hj; exact hj)
          exact ⟨h1, dig_of h3⟩
        have HR1 : Hid (valR (s.take dn) 0 = none → x = ([], false)) := fun h => by rw [h] at hs; simpa using hs.symm
        have HR2 : Hid (∀ v, valR (s.take dn) 0 = some v → wordsR k (s.drop dn) (out ++ [⟨[], v, false⟩]) = some x) := fun v h => by rw [h] at hs; exact hs
        have hex : (bs s).extract dn s.length = bs (s.drop dn) := by
          rw [bs_extract, List.take_of_length_le (by simp)]
        have HDN : Hid ((runOf s digitsR).length = dn) := hdn
        clear hs hW hdn
        go_wp2_with fail
        refine (run_ref s blanksR _ (by omega) (by decide)).mono ?_
        rintro e w' ⟨rfl, rfl⟩
        go_wp2_with fail
        refine (run_ref s digitsR _ (by omega) (by decide)).mono ?_
        rintro e w' ⟨rfl, rfl⟩
        rw [HDN.out]
        go_wp2_with fail
        refine (run_ref s lettersR _ (by omega) (by decide)).mono ?_
        rintro e w' ⟨rfl, rfl⟩
        go_wp2_with fail
        go_loopg [9, 10] dn (fun m vv iv wr' => ∃ (j : Nat) (v : Int), iv = .int .i64 j ∧ vv = .int .i64 v ∧ j ≤ dn ∧ m = dn - j ∧ 0 ≤ v ∧ v ≤ 999999 ∧ valR ((s.take dn).drop j) v = valR (s.take dn) 0 ∧ wr' = w')
        case atStart => exact ⟨0, 0, rfl, rfl, Nat.zero_le _, rfl, by omega, by omega, by simp, rfl⟩
        case round =>
          obtain ⟨j, v, rfl, rfl, hj, hm, hv0, hv1, hval, rfl⟩ := hrel
          have HM : Hid (gk = dn - j) := hm
          clear hm
          by_cases hlt : j < dn
          · obtain ⟨h1, h2, h3⟩ := hdig.out j hlt
            obtain ⟨c, hc⟩ : ∃ c, (bs s)[j]'(by rw [bs_size]; exact h1) = c := ⟨_, rfl⟩
            have hc' : s[j] = c := hc
            rw [valR_step hlt h1 v, hc'] at hval
            rw [hc'] at h2 h3
            have HV : Hid ((if 999999 < 10 * v + (c.toNat : Int) - 48 then none else valR ((s.take dn).drop (j + 1)) (10 * v + (c.toNat : Int) - 48)) = valR (s.take dn) 0) := hval
            clear hval hc'
            by_cases hgt : 999999 < 10 * v + (c.toNat : Int) - 48
            · have HR : Hid (x = ([], false)) := HR1.out (by rw [← HV.out, if_pos hgt])
              clear HV HR1 HR2
              go_wp2_with fail
              go_ret2
              rw [HR.out]
              exact ⟨HW.out.2.1, by simp, .inl ⟨rfl, rfl⟩⟩
            · have HV2 : Hid (valR ((s.take dn).drop (j + 1)) (10 * v + (c.toNat : Int) - 48) = valR (s.take dn) 0) := by have := HV.out; rw [if_neg hgt] at this; exact this
              clear HV HR1 HR2
              go_wp2_with fail
              go_roundg (dn - (j + 1))
              case measure => rw [HM.out]; omega
              case rel => exact ⟨j + 1, _, by go_num, rfl, by omega, rfl, by omega, by omega, HV2.out, rfl⟩
          · obtain rfl : j = dn := by omega
            rw [valR_end] at hval
            have HS : Hid (wordsR k (s.drop j) (out ++ [⟨[], v, false⟩]) = some x) := HR2.out v hval.symm
            have hrow := HW.out.1
            clear hval HR1 HR2 HM hdig
            go_wp2_with (at_builtin; refine wpList_app slRW rfl (.tmp 83) (.tmp 86) rfl w.heap.size out.length (rwCells out) _ rfl (hrow.alloc _) ⟨wr.heap.size, 0, none⟩ 1 1 [.string (bs []), .int .i64 v, .bool false] rfl rfl ?c1 ?c2 (by decide) ?b1 ?b2 ?b3 ?grow)
            case c1 => intro j u hj; match j, hj with | 0, hj | 1, hj | 2, hj => simp at hj; subst hj; simp [Addr.add]
            case c2 => intro u hu; simp at hu; rcases hu with rfl | rfl | rfl <;> rfl
            case b1 => unfold maxLen; omega
            case b2 => omega
            case b3 => have := HW.out.2.1.size; simp; omega
            case grow =>
              intro v' w3 hown hgrow hv g' cap hfm
              subst hfm
              have HW2 : Hid (Wd w (s.drop j) (out ++ [⟨[], v, false⟩]) (.slice (some ⟨g', 0, none⟩) (out.length + 1) cap) w3) := HW.out.app (s' := s.drop j) (x := ⟨[], v, false⟩) _ hown hgrow (by simp; omega)
              clear hown hgrow hv HW hrow
              go_wp2_with fail
              go_roundg k
              case measure => omega
              case rel => exact ⟨_, _, rfl, HS.out, HW2.out⟩
      rename_i hD
      have hD0 : (runOf s digitsR).length = 0 := by omega
      split at hs
      · rename_i hL
        have HS : Hid (wordsR k (s.drop (runOf s lettDigR).length) (out ++ [⟨s.take (runOf s lettDigR).length, 0, !keyR (s.take (runOf s lettDigR).length)⟩]) = some x) := hs
        have hpl := lett_pos hL
        generalize hn : (runOf s lettDigR).length = dn at *
        have hex : (bs s).extract dn s.length = bs (s.drop dn) := by
          rw [bs_extract, List.take_of_length_le (by simp)]
        have hex2 : (bs s).extract 0 dn = bs (s.take dn) := by
          rw [bs_extract, Nat.sub_zero, List.drop_zero]
        have HDN : Hid ((runOf s lettDigR).length = dn) := hn
        clear hs hW hn
        go_wp2_with fail
        refine (run_ref s blanksR _ (by omega) (by decide)).mono ?_
        rintro e w' ⟨rfl, rfl⟩
        go_wp2_with fail
        refine (run_ref s digitsR _ (by omega) (by decide)).mono ?_
        rintro e w' ⟨rfl, rfl⟩
        go_wp2_with fail
        refine (run_ref s lettersR _ (by omega) (by decide)).mono ?_
        rintro e w' ⟨rfl, rfl⟩
        go_wp2_with fail
        refine (run_ref s lettDigR _ (by omega) (by decide)).mono ?_
        rintro e w' ⟨rfl, rfl⟩
        rw [HDN.out]
        go_wp2_with fail
        refine (within_refB _ _ ([32] ++ s.take dn ++ [32]) reservedR (bs_cat [32] (s.take dn) [32]) rfl _ (by simp; omega) (by decide)).mono ?_
        rintro e w' ⟨rfl, rfl⟩
        have hrow := HW.out.1
        have HKey : Hid (keyR (s.take dn) = inB ([32] ++ s.take dn ++ [32]) reservedR) := by rfl
        generalize inB ([32] ++ s.take dn ++ [32]) reservedR = kb at *
        rw [HKey.out] at HS
        go_wp2_with (at_builtin; refine wpList_app slRW rfl (.tmp 99) (.tmp 106) rfl w.heap.size out.length (rwCells out) _ rfl (hrow.alloc _) ⟨w'.heap.size, 0, none⟩ 1 1 [.string (bs (s.take dn)), .int .i64 0, .bool (!kb)] rfl rfl ?c1 ?c2 (by decide) ?b1 ?b2 ?b3 ?grow)
        case c1 => intro j u hj; match j, hj with | 0, hj | 1, hj | 2, hj => simp at hj; subst hj; simp [Addr.add]
        case c2 => intro u hu; simp at hu; rcases hu with rfl | rfl | rfl <;> rfl
        case b1 => unfold maxLen; omega
        case b2 => omega
        case b3 => have := HW.out.2.1.size; simp; omega
        case grow =>
          intro v' w3 hown hgrow hv g' cap hfm
          subst hfm
          have HW2 : Hid (Wd w (s.drop dn) (out ++ [⟨s.take dn, 0, !kb⟩]) (.slice (some ⟨g', 0, none⟩) (out.length + 1) cap) w3) := HW.out.app (s' := s.drop dn) (x := ⟨s.take dn, 0, !kb⟩) _ hown hgrow (by simp; omega)
          clear hown hgrow hv HW hrow
          go_wp2_with fail
          go_roundg k
          case measure => omega
          case rel => exact ⟨_, _, rfl, HS.out, HW2.out⟩
      rename_i hL
      have hL0 : (runOf s lettersR).length = 0 := by omega
      have hex1 : (bs s).extract 0 1 = bs (s.take 1) := by rw [bs_extract, Nat.sub_zero, List.drop_zero]
      have hex2 : (bs s).extract 0 2 = bs (s.take 2) := by rw [bs_extract, Nat.sub_zero, List.drop_zero]
      have H2 : Hid (twoR s = (decide (1 < s.length) && (s.take 2 == [45, 62] || s.take 2 == [58, 58] || s.take 2 == [91, 93]))) := by rfl
      have H1 : Hid (oneR s = inB (s.take 1) onesR) := by rfl
      have hone1 : (s.take 1).length ≤ 1000000 := by simp; omega
      clear hW
      cases htwo : twoR s with
      | true =>
        rw [htwo] at hs
        have HS : Hid (wordsR k (s.drop 2) (out ++ [⟨s.take 2, 0, false⟩]) = some x) := hs
        have h3 := H2.out
        rw [htwo] at h3
        have h4 := h3.symm
        simp only [Bool.and_eq_true, Bool.or_eq_true, decide_eq_true_eq] at h4
        obtain ⟨hlen2, h5⟩ := h4
        have hexd : (bs s).extract 2 s.length = bs (s.drop 2) := by rw [bs_extract, List.take_of_length_le (by simp)]
        have hcase : (s.take 2 == [45, 62]) = true ∨ ((s.take 2 == [45, 62]) = false ∧ (s.take 2 == [58, 58]) = true) ∨ ((s.take 2 == [45, 62]) = false ∧ (s.take 2 == [58, 58]) = false ∧ (s.take 2 == [91, 93]) = true) := by
          cases e1 : (s.take 2 == [45, 62]) with
          | true => exact .inl rfl
          | false =>
            cases e2 : (s.take 2 == [58, 58]) with
            | true => exact .inr (.inl ⟨rfl, rfl⟩)
            | false =>
              rw [e1, e2] at h5
              rcases h5 with (h5 | h5) | h5
              · cases h5
              · cases h5
              · exact .inr (.inr ⟨rfl, rfl, h5⟩)
        have hd0 : decide ((1 : Int) < (s.length : Int)) = true := decide_eq_true (by omega)
        clear hs h3 h5 H2 H1 htwo
        generalize hy : s.take 2 = y at *
        have HY : Hid (s.take 2 = y) := hy
        clear hy
        generalize hz : s.take 1 = z at *
        clear hz
        rcases hcase with e1 | ⟨e1, e2⟩ | ⟨e1, e2, e3⟩
        all_goals
          go_wp2_with fail
          refine (run_ref s blanksR _ (by omega) (by decide)).mono ?_
          rintro e w' ⟨rfl, rfl⟩
          go_wp2_with fail
          refine (run_ref s digitsR _ (by omega) (by decide)).mono ?_
          rintro e w' ⟨rfl, rfl⟩
          go_wp2_with fail
          refine (run_ref s lettersR _ (by omega) (by decide)).mono ?_
          rintro e w' ⟨rfl, rfl⟩
          go_wp2_with fail
          refine (within_ref z onesR _ hone1 (by decide)).mono ?_
          rintro e w' ⟨rfl, rfl⟩
          generalize inB z onesR = ob at *
          have hrow := HW.out.1
          go_wp2_with (at_builtin; refine wpList_app slRW rfl (.tmp 51) (.tmp 56) rfl w.heap.size out.length (rwCells out) _ rfl (hrow.alloc _) ⟨w'.heap.size, 0, none⟩ 1 1 [.string (bs y), .int .i64 0, .bool false] rfl rfl ?c1 ?c2 (by decide) ?b1 ?b2 ?b3 ?grow)
          case c1 => intro j u hj; match j, hj with | 0, hj | 1, hj | 2, hj => simp at hj; subst hj; simp [Addr.add]
          case c2 => intro u hu; simp at hu; rcases hu with rfl | rfl | rfl <;> rfl
          case b1 => unfold maxLen; omega
          case b2 => omega
          case b3 => have := HW.out.2.1.size; simp; omega
          case grow =>
            intro v' w3 hown hgrow hv g' cap hfm
            subst hfm
            have HW2 : Hid (Wd w (s.drop 2) (out ++ [⟨y, 0, false⟩]) (.slice (some ⟨g', 0, none⟩) (out.length + 1) cap) w3) := HW.out.app (s' := s.drop 2) (x := ⟨y, 0, false⟩) _ hown hgrow (by simp; omega)
            clear hown hgrow hv HW hrow
            go_wp2_with fail
            go_roundg k
            case measure => omega
            case rel => exact ⟨_, _, rfl, HS.out, HW2.out⟩
      | false =>
        rw [htwo] at hs
        have h3 := H2.out
        rw [htwo] at h3
        have hcase : (¬ 1 < s.length ∧ decide ((1 : Int) < (s.length : Int)) = false) ∨ (1 < s.length ∧ decide ((1 : Int) < (s.length : Int)) = true ∧ (s.take 2 == [45, 62]) = false ∧ (s.take 2 == [58, 58]) = false ∧ (s.take 2 == [91, 93]) = false) := by
          by_cases hl : 1 < s.length
          · rw [decide_eq_true hl, Bool.true_and] at h3
            have h4 := h3.symm
            simp only [Bool.or_eq_false_iff] at h4
            exact .inr ⟨hl, decide_eq_true (by omega), h4.1.1, h4.1.2, h4.2⟩
          · exact .inl ⟨hl, decide_eq_false (by omega)⟩
        have hexd : (bs s).extract 1 s.length = bs (s.drop 1) := by rw [bs_extract, List.take_of_length_le (by simp)]
        have hext : (bs s).extract 1 s.length = bs s.tail := by rw [hexd, List.drop_one]
        cases hone : oneR s with
        | true =>
          rw [hone] at hs
          have HS : Hid (wordsR k (s.drop 1) (out ++ [⟨s.take 1, 0, false⟩]) = some x) := hs
          have hob : inB (s.take 1) onesR = true := by rw [← H1.out]; exact hone
          clear hs h3 H2 H1 htwo hone
          generalize s.take 2 = y at *
          generalize hz : s.take 1 = z at *
          clear hz
          rcases hcase with ⟨hl, hd0⟩ | ⟨hl, hd0, e1, e2, e3⟩
          all_goals
            go_wp2_with fail
            refine (run_ref s blanksR _ (by omega) (by decide)).mono ?_
            rintro e w' ⟨rfl, rfl⟩
            go_wp2_with fail
            refine (run_ref s digitsR _ (by omega) (by decide)).mono ?_
            rintro e w' ⟨rfl, rfl⟩
            go_wp2_with fail
            refine (run_ref s lettersR _ (by omega) (by decide)).mono ?_
            rintro e w' ⟨rfl, rfl⟩
            go_wp2_with fail
            refine (within_ref z onesR _ hone1 (by decide)).mono ?_
            rintro e w' ⟨rfl, rfl⟩
            have hrow := HW.out.1
            go_wp2_with (at_builtin; refine wpList_app slRW rfl (.tmp 51) (.tmp 56) rfl w.heap.size out.length (rwCells out) _ rfl (hrow.alloc _) ⟨w'.heap.size, 0, none⟩ 1 1 [.string (bs z), .int .i64 0, .bool false] rfl rfl ?c1 ?c2 (by decide) ?b1 ?b2 ?b3 ?grow)
            case c1 => intro j u hj; match j, hj with | 0, hj | 1, hj | 2, hj => simp at hj; subst hj; simp [Addr.add]
            case c2 => intro u hu; simp at hu; rcases hu with rfl | rfl | rfl <;> rfl
            case b1 => unfold maxLen; omega
            case b2 => omega
            case b3 => have := HW.out.2.1.size; simp; omega
            case grow =>
              intro v' w3 hown hgrow hv g' cap hfm
              subst hfm
              have HW2 : Hid (Wd w (s.drop 1) (out ++ [⟨z, 0, false⟩]) (.slice (some ⟨g', 0, none⟩) (out.length + 1) cap) w3) := HW.out.app (s' := s.drop 1) (x := ⟨z, 0, false⟩) _ hown hgrow (by simp; omega)
              clear hown hgrow hv HW hrow
              go_wp2_with fail
              go_roundg k
              case measure => omega
              case rel => exact ⟨_, out ++ [⟨z, 0, false⟩], rfl, by rw [← List.drop_one]; exact HS.out, by rw [← List.drop_one]; exact HW2.out⟩
        | false =>
          rw [hone] at hs
          have HR : Hid (x = ([], false)) := by show x = _; simpa using hs.symm
          have hob : inB (s.take 1) onesR = false := by rw [← H1.out]; exact hone
          clear hs h3 H2 H1 htwo hone
          generalize s.take 2 = y at *
          generalize hz : s.take 1 = z at *
          clear hz
          rcases hcase with ⟨hl, hd0⟩ | ⟨hl, hd0, e1, e2, e3⟩
          all_goals
            go_wp2_with fail
            refine (run_ref s blanksR _ (by omega) (by decide)).mono ?_
            rintro e w' ⟨rfl, rfl⟩
            go_wp2_with fail
            refine (run_ref s digitsR _ (by omega) (by decide)).mono ?_
            rintro e w' ⟨rfl, rfl⟩
            go_wp2_with fail
            refine (run_ref s lettersR _ (by omega) (by decide)).mono ?_
            rintro e w' ⟨rfl, rfl⟩
            go_wp2_with fail
            refine (within_ref z onesR _ hone1 (by decide)).mono ?_
            rintro e w' ⟨rfl, rfl⟩
            go_wp2_with fail
            go_ret2
            rw [HR.out]
            exact ⟨HW.out.2.1, by simp, .inl ⟨rfl, rfl⟩⟩

end Go.Proofs.YtnbhnjokpcdnnaaGreatDoor

namespace Go.Proofs.YtnbhnjokpcdnnaaGreatDoor
open Go.RowKit

set_option maxHeartbeats 3200000 in
set_option maxRecDepth 100000 in
theorem compile_any (n : Nat) (t : List UInt8) (k : Int) (hk : cErr n t = some k) (w : World) (hlen : t.length ≤ 9223372036854775807) (hkw : KW w) :
    Calls Tryz.prog 4 #[.string (bs t)] w fun e w' => Fr (fun _ => False) w w' ∧ ∃ pv, e = .returned (.tuple #[pv, .int .i64 k]) ∧ ((k = 0 ∧ ∃ a, pv = .pointer (some a)) ∨ (k ≠ 0 ∧ pv = .pointer none)) := by
  unfold cErr at hk
  split at hk
  · rename_i hl
    have HK : Hid (k = 1) := by show k = 1; simpa using hk.symm
    clear hk hkw
    go_enter Tryz.func4, Tryz.ntmps4
    go_wp2_with fail
    go_ret2
    rw [HK.out]
    exact ⟨Fr.refl _ _, _, rfl, .inr ⟨by decide, rfl⟩⟩
  rename_i hl
  obtain ⟨x, hx, hk⟩ := Option.bind_eq_some_iff.1 hk
  have HX : Hid (sSplit t n ⟨0, [], []⟩ = some x) := hx
  have HKW : Hid (KW w) := hkw
  clear hx hkw
  have hl2 : t.length ≤ 240 := by omega
  split at hk
  · rename_i hx2
    unfold cRead at hk
    obtain ⟨y, hy, hk⟩ := Option.bind_eq_some_iff.1 hk
    have HY : Hid (rdr x.1 n 0 rs0 = some y) := hy
    clear hy
    go_enter Tryz.func4, Tryz.ntmps4
    go_wp2_with fail
    refine (split_any t n x HX.out _ hl2 HKW.out).mono ?_
    rintro e w1 ⟨hF1, hx240, h1⟩
    rcases h1 with ⟨h1, -⟩ | ⟨-, L, rfl, hL⟩
    · rw [h1] at hx2; cases hx2
    have HL : Hid (w1.ownsRow 0 91 2 L x.1.length (wordCells x.1)) := hL
    have HF1 : Hid (Fr (fun _ => False) w w1) := hF1
    clear hL hF1 HX HKW
    go_wp2_with fail
    refine (read_any x.1 n y HY.out L _ HL.out hx240).mono ?_
    rintro e w2 ⟨hF2, h2⟩
    have HF2 : Hid (Fr (fun _ => False) w w2) := HF1.out.trans hF2 (fun _ h => h.elim)
    clear hF2 HF1 HL HY
    split at hk
    · rename_i hg
      rcases h2 with ⟨h2, -⟩ | ⟨-, E, P, B, cE, rfl, hT⟩
      · rw [h2] at hg; cases hg
      unfold cScope at hk
      split at hk
      case isFalse => cases hk
      case isTrue hb =>
      obtain ⟨b, hb', hk⟩ := Option.bind_eq_some_iff.1 hk
      have HB : Hid (fExp y.1 n y.2 [] = some b) := hb'
      have HT : Hid (Tr w2 y.1 E P B cE) := hT
      obtain ⟨ea, ec, rfl⟩ := ownsRow_len hT.e
      obtain ⟨pa, pc, rfl⟩ := ownsRow_len hT.p
      obtain ⟨ba, bc, rfl⟩ := ownsRow_len hT.b
      obtain ⟨hb1, hb2⟩ := hb
      have HK : Hid (k = if b then 4 else 0) := by show k = _; simpa using hk.symm
      clear hb' hT hk
      go_wp2_with fail
      refine (find_any y.1 n y.2 b HB.out _ _ _ cE _ (HT.out.keep fun b' hb' => ?_) hb1 hb2).mono ?_
      · exact Below.heap_alloc _ _ _ (HT.out.lt b' hb')
      rintro e w3 ⟨hF3, v, rfl⟩
      have HF3 : Hid (Fr (fun _ => False) w w3) := HF2.out.trans (Fr.trans (O := fun _ => False) ((Fr.refl _ w2).alloc _) hF3 (fun _ h => h.elim)) (fun _ h => h.elim)
      clear hF3 HF2 HT HB
      cases b with
      | true =>
        go_wp2_with fail
        go_ret2
        rw [HK.out]
        exact ⟨HF3.out, _, rfl, .inr ⟨by decide, rfl⟩⟩
      | false =>
        go_wp2_with fail
        go_ret2
        rw [HK.out]
        exact ⟨HF3.out.alloc _, _, rfl, .inl ⟨rfl, _, rfl⟩⟩
    · rename_i hg
      rcases h2 with ⟨-, rfl⟩ | ⟨h2, -⟩
      · have HK : Hid (k = 3) := by show k = 3; simpa using hk.symm
        clear hk
        go_wp2_with fail
        go_ret2
        rw [HK.out]
        exact ⟨HF2.out.alloc _, _, rfl, .inr ⟨by decide, rfl⟩⟩
      · rw [h2] at hg; exact absurd rfl hg
  · rename_i hx2
    have HK : Hid (k = 2) := by show k = 2; simpa using hk.symm
    clear hk
    go_enter Tryz.func4, Tryz.ntmps4
    go_wp2_with fail
    refine (split_any t n x HX.out _ hl2 HKW.out).mono ?_
    rintro e w1 ⟨hF1, -, h1⟩
    have HF1 : Hid (Fr (fun _ => False) w w1) := hF1
    rcases h1 with ⟨-, rfl⟩ | ⟨h1, -⟩
    · clear hF1 HX HKW
      go_wp2_with fail
      go_ret2
      rw [HK.out]
      exact ⟨HF1.out, _, rfl, .inr ⟨by decide, rfl⟩⟩
    · exact absurd h1 hx2

end Go.Proofs.YtnbhnjokpcdnnaaGreatDoor
