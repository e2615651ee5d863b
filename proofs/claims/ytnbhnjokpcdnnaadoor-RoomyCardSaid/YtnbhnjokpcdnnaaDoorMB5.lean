import Derived.Test.YtnbhnjokpcdnnaaDoorMB0
import Derived.Test.YtnbhnjokpcdnnaaDoorMB4
import Derived.Test.YtnbhnjokpcdnnaaDoorRows
import Derived.Test.YtnbhnjokpcdnnaaDoorTie
import Derived.Test.YtnbhnjokpcdnnaaDoorCards
import Derived.SevenTiedAt
import Derived.ProofKit
import Derived.LaidMore
import Derived.OpenShut
import Derived.Stop.Joined
import Derived.ChangeMaps5
import Derived.ChangeSlices
import Derived.Carry
set_option linter.unusedVariables false
set_option linter.unusedSimpArgs false
/- resumekeep.desk where Compile has no types yet. -/
namespace Go.Proofs.YtnbhnjokpcdnnaaDoor
open Go.RowKit

section
variable {w : World}

set_option maxHeartbeats 3200000 in
set_option maxRecDepth 100000 in
theorem desk_r {t : List UInt8} (hlen : t.length ≤ 9223372036854775807) (hkw : KW w) {ia : Option Addr} {il ic : Nat} (hil : il ≤ 9223372036854775807) (hz : ∀ i, i < il → ∃ a z, ia = some a ∧ w.cell? (a.add i) = some (.int .i64 z) ∧ -9223372036854775808 ≤ z ∧ z ≤ 9223372036854775807)
    {wd : Int} (h0 : -9223372036854775808 ≤ wd) (h1 : wd ≤ 9223372036854775807) :
    Calls Tryd.prog 4 #[.string (bs t), .slice ia il ic, .int .i64 wd] w fun e w' => Fr (fun _ => False) w w' ∧ (e = .returned (.tuple #[.pointer none, .bool true]) ∨ ∃ db p q, e = .returned (.tuple #[.pointer (some ⟨db, 0, none⟩), .bool true]) ∧ DeskAt w' db p t q) := by
  by_cases hb1 : 1024 < t.length
  · go_enter Tryd.func4, Tryd.ntmps4
    go_wp2_with fail
    go_ret2
    exact ⟨Fr.refl _ _, .inl rfl⟩
  by_cases hb2 : 1024 < il
  · have hs1 : ¬ (1024 < (t.length : Int)) := by omega
    go_enter Tryd.func4, Tryd.ntmps4
    go_wp2_with fail
    go_ret2
    exact ⟨Fr.refl _ _, .inl rfl⟩
  have hs1 : ¬ (1024 < (t.length : Int)) := by omega
  have hs2 : ¬ (1024 < (il : Int)) := by omega
  obtain ⟨N, k, hk⟩ := cErr_ends t
  have HK : Hid (cErr N t = some k) := hk N (Nat.le_refl _)
  have HKW : Hid (KW w) := hkw
  have HZ : Hid (∀ i, i < il → ∃ a z, ia = some a ∧ w.cell? (a.add i) = some (.int .i64 z) ∧ -9223372036854775808 ≤ z ∧ z ≤ 9223372036854775807) := hz
  clear hk hkw hz hb1 hb2
  go_enter Tryd.func4, Tryd.ntmps4
  go_wp2_with fail
  refine (compile_any N t k HK.out w hlen HKW.out).mono ?_
  rintro e w1 ⟨hF1, pv, rfl, hpv⟩
  have HF1 : Hid (Fr (fun _ => False) w w1) := hF1
  clear hF1 HKW HK
  rcases hpv with ⟨rfl, a, rfl⟩ | ⟨hk0, rfl⟩
  · go_wp2_with fail
    go_loopg [11] 8 (fun m iv wr => ∃ (i : Nat) (M : Value), iv = .int .i64 i ∧ i ≤ 8 ∧ m = 8 - i ∧ wr.heap[w1.heap.size]? = some (.cells #[.pointer (some a), .string (bs t), M, .int .i64 0] 33 (0, 0)) ∧
      (∃ l : List Int, l.length = i ∧ wr.ownsRow (w1.heap.size + 1) 3 1 M i (l.map (.int .i64))) ∧ Fr (fun _ => False) w wr)
    case atStart => exact ⟨0, .slice none 0 0, rfl, by decide, rfl, blk_new w1 _, ⟨[], rfl, World.ownsRow_nil _ _ _ _⟩, HF1.out.alloc _⟩
    case round =>
      obtain ⟨i, M, rfl, hi, hm, hq, ⟨l, hl, hM⟩, hF⟩ := hrel
      have HM : Hid (gk = 8 - i) := hm
      clear hm
      obtain ⟨⟨q0, q1, q2, q3⟩, f0, f1, f2, f3⟩ := cells4 hq
      have hqq := blk_lt hq
      have HQ : Hid (wr.heap[w1.heap.size]? = some (.cells #[.pointer (some a), .string (bs t), M, .int .i64 0] 33 (0, 0))) := hq
      have HF : Hid (Fr (fun _ => False) w wr) := hF
      have HW1 : Hid (w.heap.size ≤ w1.heap.size) := HF1.out.size
      have HMr : Hid (∀ b, M.ownBlock = some b → w1.heap.size + 1 ≤ b) := fun b hb => (hM.lt b hb).1
      have HL : Hid (l.length = i) := hl
      obtain ⟨ma, mc, rfl⟩ := ownsRow_len hM
      clear hq hF hl
      by_cases hgo : i < il ∧ i < 8
      · obtain ⟨ha, z, rfl, hc, hz0, hz1⟩ := HZ.out i hgo.1
        have hc2 : wr.cell? (ha.add i) = some (.int .i64 z) := (cell_fr HF.out (by have := cell_lt hc; exact this) id).trans hc
        have g1 : (i : Int) < (il : Int) := by omega
        have g2 : (i : Int) < 8 := by omega
        clear hc hgo
        go_wp2_with fail
        refine (pick_r hz0 hz1 2147483648 (by decide) (by decide)).mono ?_
        rintro e w2 ⟨rfl, x, hx, rfl⟩
        go_wp2_with (at_builtin; refine wpList_app slInt rfl (.tmp 62) (.tmp 64) rfl (w1.heap.size + 1) i (l.map (.int .i64)) _ rfl (hM.alloc _) ⟨w2.heap.size, 0, none⟩ 1 1 [.int .i64 (x : Int)] rfl rfl ?c1 ?c2 (by decide) ?b1 ?b2 ?b3 ?grow)
        case c1 => intro j u hj; match j, hj with | 0, hj => simp at hj; subst hj; simp [Addr.add]
        case c2 => intro u hu; simp at hu; rcases hu with rfl; rfl
        case b1 => unfold maxLen; omega
        case b2 => omega
        case b3 => simp; omega
        case grow =>
          intro v' w3 hown hgrow hv g' cap hfm
          subst hfm
          obtain ⟨k5, g5⟩ := grown_at hqq (by exact ((Fr.refl _ w2).alloc _)) hgrow HMr.out 2
          rw [q2] at k5
          rw [f2] at g5
          have hb1 : w3.heap[w1.heap.size]? = w2.heap[w1.heap.size]? := (hgrow.block _ (by simp; omega) (fun e => by have := HMr.out _ e.symm; omega)).trans (Below.heap_alloc _ _ _ hqq)
          have HB1 : Hid ((w3.setCell ⟨w1.heap.size, 2, none⟩ (.slice (some ⟨g', 0, none⟩) (i + 1) cap)).heap[w1.heap.size]? = some (.cells #[.pointer (some a), .string (bs t), .slice (some ⟨g', 0, none⟩) (i + 1) cap, .int .i64 0] 33 (0, 0))) := blk_set (hb1.trans HQ.out) (by simp)
          have HO : Hid ((w3.setCell ⟨w1.heap.size, 2, none⟩ (.slice (some ⟨g', 0, none⟩) (i + 1) cap)).ownsRow (w1.heap.size + 1) 3 1 (.slice (some ⟨g', 0, none⟩) (i + 1) cap) (i + 1) ((l ++ [(x : Int)]).map (.int .i64))) := by
            have h1 := ownsRow_block (w' := w3.setCell ⟨w1.heap.size, 2, none⟩ (.slice (some ⟨g', 0, none⟩) (i + 1) cap)) hown fun b hb => Below.heap_setCell _ _ _ _ (by have := (hown.lt b hb).1; show b ≠ w1.heap.size; omega)
            rw [List.map_append]
            exact h1
          have HF3 : Hid (Fr (fun _ => False) w (w3.setCell ⟨w1.heap.size, 2, none⟩ (.slice (some ⟨g', 0, none⟩) (i + 1) cap))) := by
            refine Fr.setCell ((HF.out.alloc _).grown hgrow (fun b hb => .inr (by have := HMr.out b hb; have := HW1.out; omega))) (.inr (by have := HW1.out; show w.heap.size ≤ w1.heap.size; omega)) _
          clear hown hgrow hv hb1 HF HQ HMr
          go_wp2_with fail
          go_roundg (8 - (i + 1))
          case measure => rw [HM.out]; omega
          case rel => exact ⟨i + 1, _, by go_num, by omega, rfl, HB1.out, ⟨l ++ [(x : Int)], by simp [HL.out], HO.out⟩, HF3.out⟩
      · have hstop : ¬ ((i : Int) < (il : Int)) ∨ ((i : Int) < (il : Int) ∧ ¬ ((i : Int) < 8)) := by
          by_cases h : i < il
          · exact .inr ⟨by omega, fun h8 => hgo ⟨h, by omega⟩⟩
          · exact .inl (by omega)
        clear hgo
        have HD : Hid (∀ x : Nat, x ≤ 262128 → DeskAt (wr.setCell ⟨w1.heap.size, 3, none⟩ (.int .i64 (16 + (x : Int)))) w1.heap.size (.pointer (some a)) t x) := fun x hx => ⟨ma, i, mc, blk_set HQ.out (by simp), hx, _, rfl⟩
        have HF4 : Hid (∀ x : Nat, Fr (fun _ => False) w (wr.setCell ⟨w1.heap.size, 3, none⟩ (.int .i64 (16 + (x : Int))))) := fun x => Fr.setCell HF.out (.inr (by have := HW1.out; show w.heap.size ≤ w1.heap.size; omega)) _
        clear HQ HF HMr hM
        rcases hstop with hs | ⟨hs, hs'⟩
        all_goals
          go_wp2_with fail
          refine (pick_r h0 h1 262129 (by decide) (by decide)).mono ?_
          rintro e w2 ⟨rfl, x, hx, rfl⟩
          have e1 : IntKind.i64.wrap (16 + (x : Int)) = 16 + (x : Int) := by rw [IntKind.wrap_i64]; omega
          go_wp2_with fail
          go_ret2
          exact ⟨HF4.out x, .inr ⟨_, _, x, rfl, HD.out x (by omega)⟩⟩
  · go_wp2_with fail
    go_ret2
    exact ⟨HF1.out, .inl (by simp [hk0])⟩

end
end Go.Proofs.YtnbhnjokpcdnnaaDoor

/- Roomy where Start answers nothing yet. -/
namespace Go.Proofs.YtnbhnjokpcdnnaaDoor
open Go.RowKit

section
variable {w : World}

set_option maxHeartbeats 800000 in
set_option maxRecDepth 100000 in
theorem roomy_r {t : List UInt8} (hlen : t.length ≤ 9223372036854775807) (hkw : KW w) {ia : Option Addr} {il ic : Nat} (hil : il ≤ 9223372036854775807) (hz : ∀ i, i < il → ∃ a z, ia = some a ∧ w.cell? (a.add i) = some (.int .i64 z) ∧ -9223372036854775808 ≤ z ∧ z ≤ 9223372036854775807)
    {wd a : Int} (h0 : -9223372036854775808 ≤ wd) (h1 : wd ≤ 9223372036854775807) (h2 : -9223372036854775808 ≤ a) (h3 : a ≤ 9223372036854775807) :
    Calls Tryd.prog 3 #[.string (bs t), .slice ia il ic, .int .i64 wd, .int .i64 a] w fun e w' => Fr (fun _ => False) w w' ∧ e = .returned (.bool true) := by
  have HKW : Hid (KW w) := hkw
  have HZ : Hid (∀ i, i < il → ∃ a z, ia = some a ∧ w.cell? (a.add i) = some (.int .i64 z) ∧ -9223372036854775808 ≤ z ∧ z ≤ 9223372036854775807) := hz
  clear hkw hz
  go_enter Tryd.func3, Tryd.ntmps3
  go_wp2_with fail
  refine (desk_r hlen HKW.out hil HZ.out h0 h1).mono ?_
  rintro e w1 ⟨hF1, rfl | ⟨db, p, q, rfl, hD⟩⟩
  · have HF1 : Hid (Fr (fun _ => False) w w1) := hF1
    clear hF1 HZ HKW
    go_wp2_with fail
    go_ret
    exact ⟨HF1.out, rfl⟩
  · have HF1 : Hid (Fr (fun _ => False) w w1) := hF1
    have HD : Hid (DeskAt w1 db p t q) := hD
    clear hF1 HZ HKW hD
    go_wp2_with fail
    refine (more_r HD.out h2 h3).mono ?_
    rintro e w2 ⟨hF2, rfl⟩
    have HF2 : Hid (Fr (fun _ => False) w w2) := HF1.out.trans hF2 (fun _ h => h.elim)
    clear hF2
    go_wp2_with fail
    go_ret
    exact ⟨HF2.out, rfl⟩
end
end Go.Proofs.YtnbhnjokpcdnnaaDoor

/- Roomy where Start answers nothing yet: the row and its card. -/
namespace Go.Proofs.YtnbhnjokpcdnnaaDoor
open Go.ChangeMaps Go.ChangeShapes Go.WideShapes Go.ChangeAt Go.WideMaps Go.WideElems Go.RowKit

theorem ownK : ownKnob Tryd.prog.godebug = none := by kernel_rfl
theorem gKey : Tryd.prog.globalNamed "resume/words.keywords" = some 0 := by kernel_rfl
theorem gSig : Tryd.prog.globalNamed "resume/words.signs" = some 1 := by kernel_rfl
theorem tKey : (Tryd.prog.globals[0]?).map (·.type) = some 85 := by kernel_rfl
theorem tSig : (Tryd.prog.globals[1]?).map (·.type) = some 87 := by kernel_rfl
theorem laidO : laidOutB Tryd.prog = true := by kernel_rfl

abbrev laid2 : List (String × DataW Unit) := Rows.roomyRow.laid

/-- An array of texts, read: its cells. -/
theorem cells_of {W : World} {H : Type} {enc : TypeId × Value → H} {base : Nat} {sp : Nat → Bool} {held : Bool} {fuel n : Nat} {t : TypeId} {cs : Array Value} {L : List (List UInt8)} {ps : List MemPlace} (ht : Tryd.prog.underlying t = some (.array n 9)) (hL : L.length = n)
    (hd : DataW.trod enc Tryd.prog W base sp held fuel t cs.toList = some (.agg (L.map fun x => .lit (.string x)), ps)) : ∀ i, i < n → cs[i]? = some (.string (bs (L.getD i []))) := by
  obtain ⟨xs, m, rfl, hx, hlen, hn, hel⟩ := DataW.trod_array ht hd
  have c9 : Tryd.prog.cellsOf 9 = 1 := by kernel_rfl
  intro i hi
  have h1 := hel i hi
  rw [c9, Nat.mul_one] at h1
  simp only [Prod.mk.injEq, DataW.agg.injEq] at hx
  have hxi : xs[i]? = some xs[i] := List.getElem?_eq_getElem (by omega)
  rw [hxi] at h1
  obtain ⟨s, e1, e2, -⟩ := DataW.trod_string Tryd.underlying9 h1
  have h2 : (L.map fun x => (DataW.lit (.string x) : DataW H))[i]? = (xs.map (·.1))[i]? := by rw [hx.1]
  rw [List.getElem?_map, List.getElem?_map, hxi, List.getElem?_eq_getElem (by omega), e2] at h2
  simp at h2
  have h3 : cs.toList[i]? = some (.string s) := by
    have := congrArg (fun l => l[0]?) e1
    simpa [List.getElem?_take, List.getElem?_drop] using this
  rw [List.getD_eq_getElem?_getD, List.getElem?_eq_getElem (by omega)]
  simp only [Option.getD_some]
  rw [h2]
  simpa using h3

theorem kw_of_laid {W : World} (h : laidMetH Tryd.prog laid2 W) : KW W := by
  rw [MakeChecks.laidMetH_plain _ _ _ (by kernel_rfl)] at h
  obtain ⟨ps, ⟨g0, t0, cs0, f0, p0, q0, hg0, ht0, hv0, hd0, ⟨g1, t1, cs1, f1, p1, q1, hg1, ht1, hv1, hd1, _, _⟩, _⟩, _, _⟩ := h
  obtain rfl := Option.some.inj (gKey.symm.trans hg0)
  obtain rfl := Option.some.inj (gSig.symm.trans hg1)
  obtain rfl := Option.some.inj (tKey.symm.trans ht0)
  obtain rfl := Option.some.inj (tSig.symm.trans ht1)
  refine ⟨fun i hi => ?_, fun i hi => ?_⟩
  · rw [World.var?_cell hg0 hv0 i]
    exact cells_of (L := kwList) Tryd.underlying85 rfl hd0 i hi
  · rw [World.var?_cell hg1 hv1 i]
    exact cells_of (L := sgList) Tryd.underlying87 rfl hd1 i hi

/-- The door's own heap meets the condition. -/
theorem door_met (os : Os) (args : Array Value) : laidMetH Tryd.prog laid2 ((World.doorLaid Tryd.prog 400 os).forCall (fun _ _ => 0) ⟨#[], args, []⟩).memory :=
  laidMetH_of_parts3 (fuel := 8) (laidMet_of_run' 8 (by kernel_rfl) (by kernel_rfl)) (by kernel_rfl) (by kernel_rfl)

set_option maxRecDepth 100000 in
theorem roomy_lifted (os : Os) (started : os.Started) (H : Type) (enc : TypeId × Value → H) :
    ReturnsInHanded {} Tryd.checked os 3 .any (fun w args => (Rows.roomySpec.pre enc Tryd.prog Tryd.f3 [] false w args ∧ laidMetH Tryd.prog laid2 w) ∧ sizedMet enc Tryd.prog Tryd.f3 (OpenSpec.ofChange Rows.roomySpec) false w args)
      (Rows.roomySpec.post enc Tryd.prog Tryd.f3 false true false false) := by
  refine returnsInHanded_of_change_and (C := Tryd.checked) (X := fun w _ => laidMetH Tryd.prog laid2 w) (fun _ _ _ hh h => h.of_heap hh) ownK started (by kernel_rfl) Tryd.func3
    (ChangeSpec.witness_shaped (enc := enc) (C := Tryd.checked) (os := os) (X := fun w _ => laidMetH Tryd.prog laid2 w) false (World.doorLaid Tryd.prog 400 os) #[.string ⟨#[]⟩, .slice none 0 0, .int .i64 0, .int .i64 0] 8 rfl (World.shaped_of_RefB (by kernel_rfl) (by kernel_rfl)) (by kernel_rfl) (by kernel_rfl) (by kernel_rfl) (door_met os _)) ?_
  intro W base args ds gs before hval0 hW _ _ hL _
  have hval : ∀ (j : Nat) t v, Tryd.f3.params[j]? = some t → args[j]? = some v → Value.okWide Tryd.prog W .any base t v := hval0
  have hW' := hW
  obtain ⟨p, q, hA0, hV, rfl, hfz, hnd⟩ := hW
  have hA : DataW.TrodAll enc Tryd.prog W 0 (fun _ => true) true Tryd.f3.params.toList args.toList ds p := hA0
  rw [Tryd.params3] at hA hval
  have hlt := hA.lt
  obtain ⟨v0, v1, v2, v3, d0, d1, d2, d3, p0, p1, p2, p3, rfl, rfl, rfl, h0, h1, h2, h3⟩ := trodAll_four hA
  obtain ⟨rfl, rfl⟩ := trodVars_none hV
  obtain ⟨s, rfl, rfl, rfl, hs⟩ := open_string Tryd.underlying9 (hval 0 9 v0 rfl rfl) h0
  obtain ⟨ia, il, ic, rfl⟩ := okWide_slice Tryd.underlying22 (hval 1 22 v1 rfl rfl)
  obtain ⟨n2, rfl, rfl, rfl, hn2⟩ := open_int Tryd.underlying3 (hval 2 3 v2 rfl rfl) h2
  obtain ⟨n3, rfl, rfl, rfl, hn3⟩ := open_int Tryd.underlying3 (hval 3 3 v3 rfl rfl) h3
  have h1k := h1
  have hkw := kw_of_laid hL
  clear hA0 hval0
  simp only [List.append_nil, List.nil_append] at hW' hlt
  obtain ⟨t, rfl⟩ : ∃ t : List UInt8, s = bs t := ⟨s.data.toList, by simp⟩
  have hlen : t.length ≤ 9223372036854775807 := by
    have h1 : (bs t).size = t.length := by simp [ByteArray.size]
    rw [h1] at hs
    unfold maxLen at hs
    omega
  have hz : il ≤ 9223372036854775807 ∧ ∀ i, i < il → ∃ a z, ia = some a ∧ W.cell? (a.add i) = some (.int .i64 z) ∧ -9223372036854775808 ≤ z ∧ z ≤ 9223372036854775807 := by
    obtain ⟨fuel, hf⟩ := h1
    rcases open_ints Tryd.underlying22 Tryd.underlying3 (by kernel_rfl) hf with ⟨hc, -⟩ | ⟨a, len, cap, zs, hc, -, hle, hmx, hzl, -, hcell, hwf⟩
    · simp [Value.cells] at hc
      obtain ⟨-, rfl, -⟩ := hc
      exact ⟨by decide, fun i hi => by omega⟩
    · simp [Value.cells] at hc
      obtain ⟨rfl, rfl, rfl⟩ := hc
      unfold maxLen at hmx
      simp at hzl
      refine ⟨by omega, fun i hi => ⟨a, _, rfl, hcell i (by omega), ?_⟩⟩
      exact bounds_i64 (hwf _ (by rw [List.getD_eq_getElem?_getD, List.getElem?_eq_getElem (by omega)]; exact List.getElem_mem _))
  have hb2 := bounds_i64 hn2
  have hb3 := bounds_i64 hn3
  refine (roomy_r hlen hkw hz.1 hz.2 hb2.1 hb2.2 hb3.1 hb3.2).mono fun e W' ⟨hF, he⟩ => ?_
  subst he
  have hbel : Below W.heap.size W W' := hF.below (Nat.le_refl _) (fun _ h => h.elim)
  have e1 : Rows.roomySpec.fn H ([.lit (.string (bs t).data.toList), d1, .lit (.int .i64 n2), .lit (.int .i64 n3)] ++ []) = { results := [.lit (.bool true)], args := [.lit (.string (bs t).data.toList), d1, .lit (.int .i64 n2), .lit (.int .i64 n3)] } := by simp [Rows.roomySpec]
  refine ⟨_, rfl, _, _, _, [], p1, [], hW', ?_, ?_, ?_, hbel.frame _, fun h => by cases h⟩
  · rw [e1]; exact trodAll_mk1 (shut_bool Tryd.underlying4 true)
  · rw [e1]
    have hT := trodAll_mk4 (shut_string Tryd.underlying9 hs) (Below.trod laidO (by kernel_rfl) (of_decide_eq_true (by kernel_rfl)) h1k hbel (fun x hx => hlt x (by simpa using hx))) (shut_int Tryd.underlying3 hn2) (shut_int Tryd.underlying3 hn3)
    simp only [List.append_nil, List.nil_append] at hT
    exact hT
  · rw [e1]; rfl

theorem roomy_row : Rows.RoomySaid :=
  OpenClaim.holds_of_wide 3 Tryd.f3 rfl rfl rfl rfl rfl rfl rfl ⟨rfl, rfl, rfl, rfl, rfl⟩ rfl rfl rfl rfl rfl (by kernel_rfl) Tryd.func3 (by kernel_rfl)
    (of_decide_eq_true (by kernel_rfl)) (by unfold Func.isWrapper; first | (rw [if_pos (by decide +kernel)]; kernel_rfl) | (rw [if_neg (by decide +kernel)]; exact ⟨rfl, rfl⟩))
    (fun os started H enc _ => roomy_lifted os started H enc)

/-- The card. -/
theorem roomy_holds : Rows.RoomyCardSaid :=
  Claim7.holds_tied_plain_at .later [] [.data, .data] true (true, "cb22ebe9a782b20d6d03bd605fb71ad5cefe48e603f8c1088337b3c9476168cc") false
    roomy_row (fun _ h => by cases h) (by kernel_rfl) (fun _ h => by cases h) roomy_row_tie rfl ⟨rfl, rfl⟩ (by kernel_rfl) rfl
    (fun f fn hf hfn => by
      obtain rfl : f = 3 := Option.some.inj ((show Tryd.prog.funcNamed "resume/resumekeep.Roomy" = some 3 by kernel_rfl).symm.trans hf) |>.symm
      obtain rfl : fn = Tryd.f3 := (Option.some.inj (Tryd.func3.symm.trans hfn)).symm
      exact ⟨by kernel_rfl, fun j t ht => by
        rw [Tryd.params3] at ht
        have h3 : t = 9 ∨ t = 22 ∨ t = 3 := by
          rcases j with _ | _ | _ | _ | j
          · exact .inl (by simpa using ht.symm)
          · exact .inr (.inl (by simpa using ht.symm))
          · exact .inr (.inr (by simpa using ht.symm))
          · exact .inr (.inr (by simpa using ht.symm))
          · simp at ht
        rcases h3 with rfl | rfl | rfl
        · exact (show Tryd.prog.wantsStandIn 9 = false by kernel_rfl)
        · exact (show Tryd.prog.wantsStandIn 22 = false by kernel_rfl)
        · exact (show Tryd.prog.wantsStandIn 3 = false by kernel_rfl)⟩)
    (by kernel_rfl)
end Go.Proofs.YtnbhnjokpcdnnaaDoor
