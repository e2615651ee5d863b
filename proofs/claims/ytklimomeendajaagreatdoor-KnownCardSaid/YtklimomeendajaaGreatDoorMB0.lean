import Derived.Test.YtklimomeendajaaGreatDoorProg
import Derived.Test.YtklimomeendajaaGreatDoorMA1
import Derived.Test.YtklimomeendajaaGreatDoorMA8
import Derived.Deep.LoopGhost
set_option linter.unusedVariables false
set_option linter.unusedSimpArgs false
namespace Go.Proofs.YtklimomeendajaaGreatDoor
open Go.RowKit

set_option maxHeartbeats 1600000 in
set_option maxRecDepth 100000 in
theorem at_ref {w : World} {f off g nb cap bk t : Nat} (ht : t < 2147483648) (h0 : w.cell? ⟨f, off, none⟩ = some (.slice (some ⟨g, 0, none⟩) nb cap)) (hf : f < w.heap.size) (hg : g < w.heap.size) (hb : t / 256 < nb) (h1 : w.cell? ⟨g, t / 256, none⟩ = some (.pointer (some ⟨bk, 0, none⟩))) :
    Calls Tryz.prog 168 #[.pointer (some ⟨f, off, none⟩), .int .i32 t] w fun e w' => e = .returned (.pointer (some ⟨bk, t % 256 * 6, none⟩)) ∧ w' = w := by
  go_enter Tryz.func168, Tryz.ntmps168
  go_wp2_with fail
  go_ret
  exact ⟨rfl, rfl⟩

end Go.Proofs.YtklimomeendajaaGreatDoor

/- The store of types as it lies: a field of a block, a row of blocks, 256 nodes a block, six cells a node. -/
namespace Go.Proofs.YtklimomeendajaaGreatDoor
open Go.RowKit

def ins3 (c : Array Value) (o : Nat) (a b d : Value) : Array Value := ((c.setIfInBounds o a).setIfInBounds (o + 1) b).setIfInBounds (o + 2) d

def ndc (x : ND) : List Value := [.int .u8 (x.k : Int), .bool x.op, .int .i32 x.a, .int .i32 x.b, .int .i32 x.mrk, .int .i32 x.nt]

def ptrB (b : Nat) : Value := .pointer (some ⟨b, 0, none⟩)

structure So (w : World) (f o : Nat) (ty : TypeId) (c : Array Value) (s : SX) (G : Value) (bk : List Nat) : Prop where
  blk : w.heap[f]? = some (.cells (ins3 c o G (.int .i64 (s.ns.length : Int)) (.int .i32 s.wk)) ty (0, 0))
  co : o + 2 < c.size
  row : w.ownsRow 0 267 1 G bk.length (bk.map ptrB)
  gf : G.ownBlock ≠ some f
  n0 : s.ns.length ≤ bk.length * 256
  n1 : bk.length * 256 ≤ s.ns.length + 256
  nd : bk.Nodup
  bf : ∀ b ∈ bk, b ≠ f ∧ G.ownBlock ≠ some b ∧ ∃ cur, w.heap[b]? = some (.cells cur 270 (0, 0)) ∧ cur.size = 1536
  at_ : ∀ t b, bk[t / 256]? = some b → ∀ i v, (ndc ((s.ns[t]?).getD {}))[i]? = some v → w.cell? ⟨b, t % 256 * 6 + i, none⟩ = some v
  sz : s.ns.length ≤ 2000000000
  w0 : 0 ≤ s.wk
  w1 : s.wk ≤ 1000000000

/-- What the store may write. -/
def sown (f : Nat) (G : Value) (bk : List Nat) (b : Nat) : Prop := b = f ∨ G.ownBlock = some b ∨ b ∈ bk

/-- Where a type lies. -/
def adr (bk : List Nat) (t : Int) : Addr := ⟨bk.getD (t.toNat / 256) 0, t.toNat % 256 * 6, none⟩

section
variable {w w' : World} {f o : Nat} {ty : TypeId} {c : Array Value} {s s' : SX} {G : Value} {bk : List Nat} {t : Int} {x x' : ND}

theorem ins3_size {a b d : Value} : (ins3 c o a b d).size = c.size := by simp [ins3]
theorem ins3_0 {a b d : Value} (h : o + 2 < c.size) : (ins3 c o a b d)[o]? = some a := by
  simp [ins3, Array.getElem?_setIfInBounds, show o < c.size by omega]
theorem ins3_1 {a b d : Value} (h : o + 2 < c.size) : (ins3 c o a b d)[o + 1]? = some b := by
  simp [ins3, Array.getElem?_setIfInBounds, show o + 1 < c.size by omega]
theorem ins3_2 {a b d : Value} (h : o + 2 < c.size) : (ins3 c o a b d)[o + 2]? = some d := by
  simp [ins3, Array.getElem?_setIfInBounds, h]
theorem ins3_set0 {a b d v : Value} : (ins3 c o a b d).setIfInBounds o v = ins3 c o v b d := by
  apply Array.ext_getElem?
  intro i
  simp only [ins3, Array.getElem?_setIfInBounds, Array.size_setIfInBounds]
  repeat' split
  all_goals first | rfl | omega
theorem ins3_set1 {a b d v : Value} : (ins3 c o a b d).setIfInBounds (o + 1) v = ins3 c o a v d := by
  apply Array.ext_getElem?
  intro i
  simp only [ins3, Array.getElem?_setIfInBounds, Array.size_setIfInBounds]
  repeat' split
  all_goals first | rfl | omega
theorem ins3_set2 {a b d v : Value} : (ins3 c o a b d).setIfInBounds (o + 2) v = ins3 c o a b v := by
  apply Array.ext_getElem?
  intro i
  simp only [ins3, Array.getElem?_setIfInBounds, Array.size_setIfInBounds]
  repeat' split
  all_goals first | rfl | omega

theorem So.flt (h : So w f o ty c s G bk) : f < w.heap.size := blk_lt h.blk

theorem So.own_lt (h : So w f o ty c s G bk) : ∀ b, sown f G bk b → b < w.heap.size := by
  rintro b (rfl | hb | hb)
  · exact h.flt
  · exact (h.row.lt b hb).2
  · obtain ⟨-, -, cur, h1, -⟩ := h.bf b hb; exact blk_lt h1

/-- The store's own cells. -/
theorem So.cells (h : So w f o ty c s G bk) : w.cell? ⟨f, o, none⟩ = some G ∧ w.cell? ⟨f, o + 1, none⟩ = some (.int .i64 (s.ns.length : Int)) ∧ w.cell? ⟨f, o + 2, none⟩ = some (.int .i32 s.wk) ∧ ∀ i, w.frozen? ⟨f, i, none⟩ = false := by
  have hb := h.blk
  refine ⟨?_, ?_, ?_, fun i => ?_⟩
  · simp [World.cell?, hb, ins3_0 h.co]
  · simp [World.cell?, hb, ins3_1 h.co]
  · simp [World.cell?, hb, ins3_2 h.co]
  · simp [World.frozen?, hb]

/-- A type as it lies. -/
theorem So.node (h : So w f o ty c s G bk) (hx : xAt s t = some x) : ∃ (g cap b n : Nat), G = .slice (some ⟨g, 0, none⟩) bk.length cap ∧ t = (n : Int) ∧ n < s.ns.length ∧ n / 256 < bk.length ∧ w.cell? ⟨g, n / 256, none⟩ = some (.pointer (some ⟨b, 0, none⟩)) ∧ g < w.heap.size ∧
    adr bk t = ⟨b, n % 256 * 6, none⟩ ∧ b ∈ bk ∧ bk[n / 256]? = some b := by
  unfold xAt at hx
  split at hx
  case isFalse => cases hx
  case isTrue h0 =>
  obtain ⟨hlt, rfl⟩ := List.getElem?_eq_some_iff.1 hx
  have h1 := h.n0
  have hb : t.toNat / 256 < bk.length := by omega
  rcases h.row.2 with ⟨_, h2⟩ | ⟨g, cap, cur, rfl, hg⟩
  · omega
  · refine ⟨g, cap, bk[t.toNat / 256], t.toNat, rfl, by omega, hlt, hb, ?_, (h.row.lt g rfl).2, ?_, List.getElem_mem hb, List.getElem?_eq_getElem hb⟩
    · rw [World.ownsRow.cellAt h.row _ (by omega)]
      simp [hb, ptrB]
    · simp [adr, hb]

/-- Its cells. -/
theorem So.six (h : So w f o ty c s G bk) (hx : xAt s t = some x) {b m : Nat} (ha : adr bk t = ⟨b, m, none⟩) : b < w.heap.size ∧ w.cell? ⟨b, m, none⟩ = some (.int .u8 (x.k : Int)) ∧ w.cell? ⟨b, m + 1, none⟩ = some (.bool x.op) ∧ w.cell? ⟨b, m + 2, none⟩ = some (.int .i32 x.a) ∧
    w.cell? ⟨b, m + 3, none⟩ = some (.int .i32 x.b) ∧ w.cell? ⟨b, m + 4, none⟩ = some (.int .i32 x.mrk) ∧ w.cell? ⟨b, m + 5, none⟩ = some (.int .i32 x.nt) ∧ ∀ i, w.frozen? ⟨b, i, none⟩ = false := by
  obtain ⟨g, cap, b', n, -, rfl, hn, -, -, -, ha', hm, hb⟩ := h.node hx
  rw [ha] at ha'
  injection ha' with e1 e2 _
  subst e1 e2
  obtain ⟨-, -, cur, hc, -⟩ := h.bf b hm
  have hg : s.ns[n]? = some x := by unfold xAt at hx; rw [if_pos (by omega)] at hx; simpa using hx
  have h6 := h.at_ n b hb
  rw [hg] at h6
  refine ⟨blk_lt hc, h6 0 _ rfl, h6 1 _ rfl, h6 2 _ rfl, h6 3 _ rfl, h6 4 _ rfl, h6 5 _ rfl, fun i => by simp [World.frozen?, hc]⟩

theorem xSet_len : (xSet s t x').ns.length = s.ns.length := by simp [xSet]

/-- A cell of a type is set. -/
theorem So.put (h : So w f o ty c s G bk) (hx : xAt s t = some x) {b m i : Nat} (ha : adr bk t = ⟨b, m, none⟩) {v : Value} (hi : i < 6) (hv : ndc x' = (ndc x).set i v) : So (w.setCell ⟨b, m + i, none⟩ v) f o ty c (xSet s t x') G bk := by
  obtain ⟨g, cap, b', n, hG, rfl, hn, hnb, -, -, ha', hm, hb⟩ := h.node hx
  rw [ha] at ha'
  injection ha' with e1 e2 _
  subst e1 e2
  obtain ⟨hbf, hbG, cur, hc, hcs⟩ := h.bf b hm
  have hg : s.ns[n]? = some x := by unfold xAt at hx; rw [if_pos (by omega)] at hx; simpa using hx
  have hother : ∀ k, k ≠ b → (w.setCell ⟨b, n % 256 * 6 + i, none⟩ v).heap[k]? = w.heap[k]? := fun k hk => Below.heap_setCell _ _ _ _ hk
  refine ⟨?_, h.co, ownsRow_block h.row fun k hk => hother k (by rintro rfl; exact hbG hk), h.gf, by rw [xSet_len]; exact h.n0, by rw [xSet_len]; exact h.n1, h.nd, ?_, ?_, by rw [xSet_len]; exact h.sz, h.w0, h.w1⟩
  · rw [hother f (fun e => hbf e.symm), xSet_len]; exact h.blk
  · intro k hk
    obtain ⟨h1, h2, cur', h3, h4⟩ := h.bf k hk
    refine ⟨h1, h2, ?_⟩
    by_cases e : k = b
    · subst e
      exact ⟨_, blk_set hc rfl, by simp [hcs]⟩
    · exact ⟨cur', (hother k e).trans h3, h4⟩
  · intro u k hk j y hy
    by_cases e : u = n
    · subst e
      rw [hb] at hk
      injection hk with hk
      subst hk
      have hy' : (ndc x')[j]? = some y := by simpa [xSet, hn] using hy
      rw [hv, List.getElem?_set] at hy'
      have hl : (ndc x).length = 6 := rfl
      split at hy'
      · rename_i hij
        subst hij
        rw [if_pos (by omega)] at hy'
        injection hy' with hy'
        subst hy'
        have : u % 256 * 6 + i < cur.size := by rw [hcs]; omega
        simp [World.cell?, blk_set hc rfl, this]
      · rename_i hij
        have h6 := h.at_ u b hb
        rw [hg] at h6
        have h7 := h6 j y hy'
        simp only [World.cell?, blk_set hc rfl] at h7 ⊢
        simp only [hc] at h7
        simpa [Array.getElem?_setIfInBounds, show ¬ (i = j) from hij] using h7
    · have h7 := h.at_ u k hk j y (by simpa [xSet, Ne.symm e] using hy)
      have hj : j < 6 := by have := (List.getElem?_eq_some_iff.1 hy).1; simpa [ndc] using this
      by_cases e2 : k = b
      · subst e2
        have hne : u / 256 = n / 256 := by
          have h1 := (List.getElem?_eq_some_iff.1 hk).1
          exact (List.getElem?_inj h1 h.nd).1 (hk.trans hb.symm)
        simp only [World.cell?, blk_set hc rfl] at h7 ⊢
        simp only [hc] at h7
        have : ¬ (n % 256 * 6 + i = u % 256 * 6 + j) := by omega
        simpa [Array.getElem?_setIfInBounds, this] using h7
      · have := hother k e2
        simp only [World.cell?, this] at h7 ⊢
        exact h7
end
end Go.Proofs.YtklimomeendajaaGreatDoor

/- Steps of the store. -/
namespace Go.Proofs.YtklimomeendajaaGreatDoor
open Go.RowKit

theorem zc_len : ∀ n : Nat, ((List.range n).flatMap fun _ => ndc {}).length = n * 6
  | 0 => rfl
  | n + 1 => by
    rw [List.range_succ, List.flatMap_append, List.length_append, zc_len n]
    simp [ndc]
    omega

theorem zc_at {i : Nat} : ∀ (n k : Nat), i < 6 → k < n → ((List.range n).flatMap fun _ => ndc {})[k * 6 + i]? = (ndc {})[i]?
  | 0, _, _, hk => by omega
  | n + 1, k, hi, hk => by
    rw [List.range_succ, List.flatMap_append]
    by_cases h1 : k < n
    · rw [List.getElem?_append_left (by rw [zc_len]; omega)]
      exact zc_at n k hi h1
    · obtain rfl : k = n := by omega
      rw [List.getElem?_append_right (by rw [zc_len]; omega), zc_len]
      simp

/-- Behind a step: how the store stands; what it owns was its own, or is new. -/
def Sn (f o : Nat) (ty : TypeId) (c : Array Value) (w : World) (G : Value) (bk : List Nat) (w' : World) (s' : SX) : Prop :=
  ∃ G' bk', So w' f o ty c s' G' (bk ++ bk') ∧ Fr (sown f G bk) w w' ∧ ∀ b, sown f G' (bk ++ bk') b → sown f G bk b ∨ w.heap.size ≤ b

section
variable {w w' w1 w2 : World} {f o : Nat} {ty : TypeId} {c : Array Value} {s s' s2 : SX} {G G' : Value} {bk bk' : List Nat} {t : Int} {x x' : ND}

theorem So.frX {X : Nat → Prop} (h : So w f o ty c s G bk) (hF : Fr X w w') (hX : ∀ b, X b → ¬ sown f G bk b) : So w' f o ty c s G bk := by
  have hb : ∀ b, sown f G bk b → w'.heap[b]? = w.heap[b]? := fun b hb => hF.block b (h.own_lt b hb) (fun hx => hX b hx hb)
  refine ⟨(hb f (.inl rfl)).trans h.blk, h.co, ownsRow_block h.row fun b h' => hb b (.inr (.inl h')), h.gf, h.n0, h.n1, h.nd, fun b h' => ?_, fun u b h' i v hv => ?_, h.sz, h.w0, h.w1⟩
  · obtain ⟨h1, h2, cur, h3, h4⟩ := h.bf b h'
    exact ⟨h1, h2, cur, (hb b (.inr (.inr h'))).trans h3, h4⟩
  · have hm : b ∈ bk := List.mem_of_getElem? h'
    have := h.at_ u b h' i v hv
    simp only [World.cell?, hb b (.inr (.inr hm))] at this ⊢
    exact this

theorem So.fr (h : So w f o ty c s G bk) (hF : Fr (fun _ => False) w w') : So w' f o ty c s G bk := h.frX hF (fun _ h => h.elim)

/-- The number of walks is set. -/
theorem So.tick (h : So w f o ty c s G bk) {v : Int} (h0 : 0 ≤ v) (h1 : v ≤ 1000000000) : So (w.setCell ⟨f, o + 2, none⟩ (.int .i32 v)) f o ty c { s with wk := v } G bk := by
  have hother : ∀ k, k ≠ f → (w.setCell ⟨f, o + 2, none⟩ (.int .i32 v)).heap[k]? = w.heap[k]? := fun k hk => Below.heap_setCell _ _ _ _ hk
  refine ⟨blk_set h.blk ins3_set2, h.co, ownsRow_block h.row fun b h' => hother b (by rintro rfl; exact h.gf h'), h.gf, h.n0, h.n1, h.nd, fun b h' => ?_, fun u b h' i y hy => ?_, h.sz, h0, h1⟩
  · obtain ⟨g1, g2, cur, g3, g4⟩ := h.bf b h'
    exact ⟨g1, g2, cur, (hother b g1).trans g3, g4⟩
  · have := h.at_ u b h' i y hy
    simp only [World.cell?, hother b (h.bf b (List.mem_of_getElem? h')).1] at this ⊢
    exact this

/-- One node more, which is nothing yet. -/
theorem So.more (h : So w f o ty c s G bk) (h1 : s.ns.length < bk.length * 256) (h2 : s.ns.length < 2000000000) : So (w.setCell ⟨f, o + 1, none⟩ (.int .i64 ((s.ns.length : Int) + 1))) f o ty c { s with ns := s.ns ++ [{}] } G bk := by
  have hother : ∀ k, k ≠ f → (w.setCell ⟨f, o + 1, none⟩ (.int .i64 ((s.ns.length : Int) + 1))).heap[k]? = w.heap[k]? := fun k hk => Below.heap_setCell _ _ _ _ hk
  have n1 := h.n1
  refine ⟨blk_set h.blk ?_, h.co, ownsRow_block h.row fun b h' => hother b (by rintro rfl; exact h.gf h'), h.gf, by simp; omega, by simp; omega, h.nd, fun b h' => ?_, fun u b h' i y hy => ?_, by simp; omega, h.w0, h.w1⟩
  · rw [ins3_set1]
    simp
  · obtain ⟨g1, g2, cur, g3, g4⟩ := h.bf b h'
    exact ⟨g1, g2, cur, (hother b g1).trans g3, g4⟩
  · have hy' : (ndc ((s.ns[u]?).getD {}))[i]? = some y := by
      rw [← hy]
      congr 2
      by_cases e : u < s.ns.length
      · simp [List.getElem?_append, e]
      · by_cases e2 : u = s.ns.length
        · subst e2; simp
        · rw [List.getElem?_eq_none (by omega), List.getElem?_eq_none (by simp; omega)]
    have := h.at_ u b h' i y hy'
    simp only [World.cell?, hother b (h.bf b (List.mem_of_getElem? h')).1] at this ⊢
    exact this

/-- One block more. -/
theorem So.block (h : So w f o ty c s G bk) (hF : Fr (fun _ => False) w w1) (hg : w1.grownBy w2 G.ownBlock) {z : Nat} {cz : Array Value} (hz : w1.heap[z]? = some (.cells cz 270 (0, 0))) (hz0 : w.heap.size ≤ z) (hcz : cz.toList = (List.range 256).flatMap fun _ => ndc {})
    (hr : w2.ownsRow 0 267 1 G' (bk.length + 1) ((bk ++ [z]).map ptrB)) (hv : G'.ownBlock = G.ownBlock ∨ G'.ownBlock = some w1.heap.size) (hn : s.ns.length = bk.length * 256) :
    So (w2.setCell ⟨f, o, none⟩ G') f o ty c s G' (bk ++ [z]) ∧ Fr (sown f G bk) w (w2.setCell ⟨f, o, none⟩ G') ∧ ∀ b, sown f G' (bk ++ [z]) b → sown f G bk b ∨ w.heap.size ≤ b := by
  have hF2 : Fr (fun b => G.ownBlock = some b) w w2 := (hF.mono (fun _ h => h.elim)).grown hg (fun k hk => .inl hk)
  have hF3 : Fr (fun b => b = f ∨ G.ownBlock = some b) w (w2.setCell ⟨f, o, none⟩ G') := (hF2.mono (fun _ h => .inl (.inr h))).setCell (.inl (.inl rfl)) _
  have hzl : z < w1.heap.size := blk_lt hz
  have hsz := hF.size
  have hGz : G.ownBlock ≠ some z := fun e => by have := (h.row.lt z e).2; omega
  have hG'f : G'.ownBlock ≠ some f := by
    intro e
    rcases hv with h1 | h1
    · exact h.gf (h1 ▸ e)
    · rw [h1] at e; injection e with e; have := h.flt; omega
  have hG'z : G'.ownBlock ≠ some z := by
    intro e
    rcases hv with h1 | h1
    · exact hGz (h1 ▸ e)
    · rw [h1] at e; injection e with e; omega
  have hzf : z ≠ f := fun e => by have := h.flt; omega
  have hz2 : (w2.setCell ⟨f, o, none⟩ G').heap[z]? = some (.cells cz 270 (0, 0)) := by
    rw [Below.heap_setCell _ _ _ _ hzf, hg.block z hzl (fun e => hGz e.symm)]
    exact hz
  have hcs : cz.size = 1536 := by
    have := congrArg List.length hcz
    rw [zc_len] at this
    simpa using this
  have keepB : ∀ b ∈ bk, (w2.setCell ⟨f, o, none⟩ G').heap[b]? = w.heap[b]? := fun b hb => by
    obtain ⟨g1, g2, -⟩ := h.bf b hb
    exact hF3.block b (h.own_lt b (.inr (.inr hb))) (by rintro (e | e); exact g1 e; exact g2 e)
  refine ⟨⟨?_, h.co, ?_, hG'f, ?_, ?_, ?_, ?_, ?_, h.sz, h.w0, h.w1⟩, ?_, ?_⟩
  · have : w2.heap[f]? = w.heap[f]? := hF2.block f h.flt h.gf
    exact blk_set (this.trans h.blk) ins3_set0
  · rw [List.length_append]
    exact ownsRow_block hr fun b hb => Below.heap_setCell _ _ _ _ (by rintro rfl; exact hG'f hb)
  · simp; omega
  · simp; omega
  · refine List.nodup_append.2 ⟨h.nd, by simp, fun a ha b hb => ?_⟩
    simp at hb
    subst hb
    rintro rfl
    have := h.own_lt a (.inr (.inr ha))
    omega
  · intro b hb
    rcases List.mem_append.1 hb with hb | hb
    · obtain ⟨g1, g2, cur, g3, g4⟩ := h.bf b hb
      refine ⟨g1, ?_, cur, (keepB b hb).trans g3, g4⟩
      intro e
      rcases hv with h1 | h1
      · exact g2 (h1 ▸ e)
      · rw [h1] at e; injection e with e; have := h.own_lt b (.inr (.inr hb)); omega
    · simp at hb
      subst hb
      exact ⟨hzf, hG'z, cz, hz2, hcs⟩
  · intro u b hb i y hy
    by_cases e : u / 256 < bk.length
    · rw [List.getElem?_append_left e] at hb
      have := h.at_ u b hb i y hy
      simp only [World.cell?, keepB b (List.mem_of_getElem? hb)] at this ⊢
      exact this
    · have e2 : u / 256 = bk.length := by
        have := (List.getElem?_eq_some_iff.1 hb).1
        simp at this
        omega
      rw [e2] at hb
      simp at hb
      subst hb
      have hnone : s.ns[u]? = none := List.getElem?_eq_none (by omega)
      rw [hnone] at hy
      have hi : i < 6 := by have := (List.getElem?_eq_some_iff.1 hy).1; simpa [ndc] using this
      have k1 := zc_at 256 (u % 256) hi (Nat.mod_lt _ (by decide))
      rw [← hcz, Array.getElem?_toList] at k1
      simp only [World.cell?, hz2]
      rw [k1]
      exact hy
  · exact hF3.mono (fun b hb => .inl (by rcases hb with hb | hb; exact .inl hb; exact .inr (.inl hb)))
  · rintro b (rfl | hb | hb)
    · exact .inl (.inl rfl)
    · rcases hv with h1 | h1
      · exact .inl (.inr (.inl (h1 ▸ hb)))
      · rw [h1] at hb; injection hb with hb; right; omega
    · rcases List.mem_append.1 hb with hb | hb
      · exact .inl (.inr (.inr hb))
      · simp at hb; subst hb; exact .inr hz0

theorem So.sn (h : So w f o ty c s G bk) : Sn f o ty c w G bk w s := ⟨G, [], by simpa using h, Fr.refl _ _, fun b hb => .inl (by simpa using hb)⟩

theorem So.sn_fr (h : So w f o ty c s G bk) (hF : Fr (fun _ => False) w w') : Sn f o ty c w G bk w' s := ⟨G, [], by simpa using h.fr hF, hF.mono (fun _ h => h.elim), fun b hb => .inl (by simpa using hb)⟩

/-- Two steps. -/
theorem Sn.trans (hF : Fr (sown f G bk) w w1) (hO : ∀ b, sown f G' (bk ++ bk') b → sown f G bk b ∨ w.heap.size ≤ b) (h : Sn f o ty c w1 G' (bk ++ bk') w2 s2) : Sn f o ty c w G bk w2 s2 := by
  obtain ⟨G2, b2, h1, h2, h3⟩ := h
  refine ⟨G2, bk' ++ b2, by rw [← List.append_assoc]; exact h1, hF.trans h2 hO, fun b hb => ?_⟩
  rw [← List.append_assoc] at hb
  rcases h3 b hb with h4 | h4
  · exact hO b h4
  · have := hF.size; right; omega

/-- Where a type lies stays. -/
theorem adr_app (h : So w f o ty c s G bk) (hx : xAt s t = some x) : adr (bk ++ bk') t = adr bk t := by
  obtain ⟨g, cap, b, n, -, rfl, -, hn, -, -, ha, -, hb⟩ := h.node hx
  unfold adr
  simp [List.getElem?_append, hn]
end
end Go.Proofs.YtklimomeendajaaGreatDoor

/- at, find, link. -/
namespace Go.Proofs.YtklimomeendajaaGreatDoor
open Go.RowKit

section
variable {w w' w1 w2 : World} {f o : Nat} {ty : TypeId} {c : Array Value} {s s' s2 : SX} {G G' : Value} {bk bk' : List Nat} {t : Int} {x x' : ND}

theorem at_so (h : So w f o ty c s G bk) (hx : xAt s t = some x) {b m : Nat} (ha : adr bk t = ⟨b, m, none⟩) :
    Calls Tryz.prog 168 #[.pointer (some ⟨f, o, none⟩), .int .i32 t] w fun e w' => e = .returned (.pointer (some ⟨b, m, none⟩)) ∧ w' = w := by
  obtain ⟨g, cap, b', n, rfl, rfl, hn, hnb, hc, hg, ha', -, -⟩ := h.node hx
  rw [ha] at ha'
  injection ha' with e1 e2 _
  subst e1 e2
  exact at_ref (by have := h.sz; omega) h.cells.1 h.flt hg hnb hc

/-- The nodes lie in the blocks, and are none else's. -/
theorem nodes_own : ∀ b, b ∈ bk → sown f G bk b := fun _ h => .inr (.inr h)

theorem adr_ex (bk : List Nat) (t : Int) : ∃ b m, adr bk t = ⟨b, m, none⟩ := ⟨_, _, rfl⟩

theorem adr_mem (h : So w f o ty c s G bk) (hx : xAt s t = some x) {b m : Nat} (ha : adr bk t = ⟨b, m, none⟩) : b ∈ bk := by
  obtain ⟨g, cap, b', n, -, -, -, -, -, -, ha', hm, -⟩ := h.node hx
  rw [ha] at ha'
  injection ha' with e1 e2 _
  subst e1
  exact hm

theorem bindO {α β : Type} {a : Option α} {g : α → Option β} {y : β} (h : a.bind g = some y) : ∃ v, a = some v ∧ g v = some y := Option.bind_eq_some_iff.1 h

theorem ndc_a (v : Int) : ndc { x with a := v } = (ndc x).set 2 (.int .i32 v) := rfl
theorem ndc_mrk (v : Int) : ndc { x with mrk := v } = (ndc x).set 4 (.int .i32 v) := rfl
theorem ndc_nt (v : Int) : ndc { x with nt := v } = (ndc x).set 5 (.int .i32 v) := rfl
theorem ndc_op (v : Bool) : ndc { x with op := v } = (ndc x).set 1 (.bool v) := rfl

set_option maxHeartbeats 3200000 in
set_option maxRecDepth 100000 in
theorem find_so (h : So w f o ty c s G bk) {n : Nat} {e : Int} (hx : xFind n s t = some (s', e)) :
    Calls Tryz.prog 123 #[.pointer (some ⟨f, o, none⟩), .int .i32 t] w fun r w' => r = .returned (.int .i32 e) ∧ So w' f o ty c s' G bk ∧ Fr (fun b => b ∈ bk) w w' := by
  unfold xFind at hx
  obtain ⟨e', h1, hx⟩ := bindO hx
  obtain ⟨s1, h2, hx⟩ := bindO hx
  injection hx with hx
  injection hx with e1 e2
  subst e1 e2
  have HS : Hid (So w f o ty c s G bk) := h
  have H1 : Hid (xEnd s n t = some e') := h1
  have H2 : Hid (xComp e' n s t = some s1) := h2
  clear h h1 h2
  go_enter Tryz.func123, Tryz.ntmps123
  go_wp2_with fail
  go_loopg [5] n (fun k v wr => ∃ y : Int, v = .int .i32 y ∧ xEnd s k y = some e' ∧ wr = w)
  case atStart => exact ⟨t, rfl, H1.out, rfl⟩
  case round =>
    obtain ⟨y, rfl, hy, rfl⟩ := hrel
    clear H1
    cases gk with
    | zero => cases hy
    | succ k =>
      rw [xEnd] at hy
      obtain ⟨x, hxy, hy⟩ := bindO hy
      obtain ⟨b, m, ha⟩ := adr_ex bk y
      obtain ⟨hb, c0, -, c2, -⟩ := HS.out.six hxy ha
      have HA : Hid (Calls Tryz.prog 168 #[.pointer (some ⟨f, o, none⟩), .int .i32 y] wr fun e w' => e = .returned (.pointer (some ⟨b, m, none⟩)) ∧ w' = wr) := at_so HS.out hxy ha
      by_cases hk : x.k = 7
      · rw [if_pos hk] at hy
        rw [hk] at c0
        have HY : Hid (xEnd s k x.a = some e') := hy
        clear hy ha hxy hk
        go_wp2_with fail
        refine HA.out.mono ?_
        rintro r w1 ⟨rfl, rfl⟩
        go_wp2_with fail
        refine HA.out.mono ?_
        rintro r w1 ⟨rfl, rfl⟩
        go_wp2_with fail
        go_roundg k
        case measure => omega
        case rel => exact ⟨_, rfl, HY.out, rfl⟩
      · rw [if_neg hk] at hy
        injection hy with hy
        subst hy
        have hk' : ((x.k : Int) == 7) = false := by simp; omega
        generalize (x.k : Int) = kk at c0 hk'
        clear ha hxy hk
        go_wp2_with fail
        refine HA.out.mono ?_
        rintro r w1 ⟨rfl, rfl⟩
        go_wp2_with fail
        clear c0 c2 hb hk' HA
        go_loopg [1, 6] n (fun k tv _pv wr' => ∃ (u : Int) (sk : SX), tv = .int .i32 u ∧ xComp y k sk u = some s1 ∧ So wr' f o ty c sk G bk ∧ Fr (fun b => b ∈ bk) w1 wr')
        case atStart => exact ⟨t, s, rfl, H2.out, HS.out, Fr.refl _ _⟩
        case round =>
          obtain ⟨u, sk, rfl, hu, hS, hF⟩ := hrel
          clear H2 HS
          cases gk with
          | zero => cases hu
          | succ k =>
            rw [xComp] at hu
            by_cases hue : u = y
            · rw [if_pos hue] at hu
              injection hu with hu
              subst hu
              have HS' : Hid (So wr f o ty c sk G bk ∧ Fr (fun b => b ∈ bk) w1 wr) := ⟨hS, hF⟩
              subst hue
              clear hS hF
              go_wp2_with fail
              go_ret
              exact ⟨rfl, HS'.out⟩
            · rw [if_neg hue] at hu
              obtain ⟨x, hxu, hu⟩ := bindO hu
              obtain ⟨b, m, ha⟩ := adr_ex bk u
              obtain ⟨hb, -, -, c2, -, -, -, hfz⟩ := hS.six hxu ha
              have HA : Hid (Calls Tryz.prog 168 #[.pointer (some ⟨f, o, none⟩), .int .i32 u] wr fun e w' => e = .returned (.pointer (some ⟨b, m, none⟩)) ∧ w' = wr) := at_so hS hxu ha
              have HP : Hid (So (wr.setCell ⟨b, m + 2, none⟩ (.int .i32 y)) f o ty c (xSet sk u { x with a := y }) G bk) := hS.put hxu ha (by decide) (ndc_a y)
              have HM : Hid (b ∈ bk) := adr_mem hS hxu ha
              have HF : Hid (Fr (fun b => b ∈ bk) w1 wr) := hF
              have HU : Hid (xComp y k (xSet sk u { x with a := y }) x.a = some s1) := hu
              have f2 := hfz (m + 2)
              clear hS hF hu ha hxu hfz
              go_wp2_with fail
              refine HA.out.mono ?_
              rintro r w2 ⟨rfl, rfl⟩
              go_wp2_with fail
              go_roundg k
              case measure => omega
              case rel => exact ⟨_, _, rfl, HU.out, HP.out, HF.out.setCell (.inl HM.out) _⟩
end
end Go.Proofs.YtklimomeendajaaGreatDoor

/- parts. -/
namespace Go.Proofs.YtklimomeendajaaGreatDoor
open Go.RowKit

section
variable {w w' w1 w2 : World} {f o : Nat} {ty : TypeId} {c : Array Value} {s s' s2 : SX} {G G' : Value} {bk bk' : List Nat} {t : Int} {x x' : ND}

/-- A block that is none of the store's lies as it lay. -/
theorem So.keep (h : So w f o ty c s G bk) {k : Nat} {ob : Obj} (hF : Fr (fun b => b ∈ bk) w w') (hb : w.heap[k]? = some ob) (hk : k ∉ bk) : w'.heap[k]? = some ob := (hF.block k (blk_lt hb) hk).trans hb

theorem So.new (h : So w f o ty c s G bk) {k : Nat} (hk : w.heap.size ≤ k) : ¬ sown f G bk k := fun h' => by have := h.own_lt k h'; omega

theorem results_tmp_cell {fn : Func} {p u : Tmp} {ty : TypeId} (h : fn.results = #[.tmp u, .cell p ty]) (tmps : Array Value) (P : Program) (w : World) :
    (results fn tmps).run P w = ((asAddr (tmps.getD p undef)).run P w).andThen fun a w₁ => ((loadVar ty a).run P w₁).andThen fun v w₂ => .ok (.tuple #[tmps.getD u undef, v]) w₂ := by
  simp only [results, h]
  simp [Sem.run_bind, Result.andThen]

/-- What is new since w is none of the store's. -/
theorem So.out (h : So w f o ty c s G bk) (h1 : So w1 f o ty c s' G bk) (hF : Fr (fun b => w.heap.size ≤ b) w1 w2) : So w2 f o ty c s' G bk := h1.frX hF fun _ hb => h.new hb

set_option maxHeartbeats 3200000 in
set_option maxRecDepth 100000 in
theorem parts_so (h : So w f o ty c s G bk) {n : Nat} {l : List Int} (hx : xParts n s t = some (s', l)) :
    Calls Tryz.prog 183 #[.pointer (some ⟨f, o, none⟩), .int .i32 t] w fun r w' => r = .returned (.tuple #[.int .i64 l.length, .agg #[.int .i32 (l.getD 0 0), .int .i32 (l.getD 1 0)]]) ∧ So w' f o ty c s' G bk ∧ Fr (fun b => b ∈ bk) w w' := by
  unfold xParts at hx
  obtain ⟨x, hxt, hx⟩ := bindO hx
  obtain ⟨b, m, ha⟩ := adr_ex bk t
  obtain ⟨hb, c0, -, c2, c3, -⟩ := h.six hxt ha
  have HS : Hid (So w f o ty c s G bk) := h
  have HX : Hid (xAt s t = some x) := hxt
  have HD : Hid (adr bk t = ⟨b, m, none⟩) := ha
  have HN : Hid (∀ k, w.heap.size ≤ k → k ∉ bk) := fun k hk hm => h.new hk (.inr (.inr hm))
  clear h hxt ha
  split at hx
  · rename_i hk
    obtain ⟨y, hy, hx⟩ := bindO hx
    injection hx with hx
    injection hx with e1 e2
    subst e1 e2
    obtain ⟨s1, y2⟩ := y
    have HY : Hid (xFind n s x.a = some (s1, y2)) := hy
    clear hy
    rcases hk with hk | hk
    all_goals
      rw [hk] at c0
      clear hk
      go_enter Tryz.func183, Tryz.ntmps183
      go_wp2_with fail
      refine (at_so (HS.out.fr (by repeat (first | with_reducible exact Fr.refl _ _ | (with_reducible refine Fr.drew ?_) | (with_reducible refine Fr.drewN ?_ _) | (with_reducible refine Fr.alloc ?_ _) | ((with_reducible refine Fr.setCell ?_ ?_ _); rotate_left; first | exact .inl rfl | exact .inr (Nat.le_refl _) | exact .inl (Nat.le_refl _) | (focus (left; simp; done)) | (focus (left; simp; omega)) | (focus (left; omega)) | (focus (right; simp; done)) | (focus (right; simp; omega)) | (focus (right; omega))) | exact Fr.refl _ _))) HX.out HD.out).mono ?_
      rintro r w1 ⟨rfl, rfl⟩
      go_wp2_with fail
      generalize hW : (w.alloc (.cells #[.int .i32 0, .int .i32 0] 275)).alloc (.cells #[.int .i32 0, .int .i32 0] 275) = W
      have hFW : Fr (fun _ => False) w W := by rw [← hW]; exact (by repeat (first | with_reducible exact Fr.refl _ _ | (with_reducible refine Fr.drew ?_) | (with_reducible refine Fr.drewN ?_ _) | (with_reducible refine Fr.alloc ?_ _) | ((with_reducible refine Fr.setCell ?_ ?_ _); rotate_left; first | exact .inl rfl | exact .inr (Nat.le_refl _) | exact .inl (Nat.le_refl _) | (focus (left; simp; done)) | (focus (left; simp; omega)) | (focus (left; omega)) | (focus (right; simp; done)) | (focus (right; simp; omega)) | (focus (right; omega))) | exact Fr.refl _ _))
      have h0 : W.heap[w.heap.size]? = some (.cells #[.int .i32 0, .int .i32 0] 275 (0, 0)) := by rw [← hW, Below.heap_alloc _ _ _ (by simp)]; exact blk_new w _
      have h1 : W.heap[w.heap.size + 1]? = some (.cells #[.int .i32 0, .int .i32 0] 275 (0, 0)) := by rw [← hW]; have := blk_new (w.alloc (.cells #[.int .i32 0, .int .i32 0] 275)) (.cells #[.int .i32 0, .int .i32 0] 275); simpa using this
      refine (find_so (HS.out.fr hFW) HY.out).mono ?_
      rintro r w2 ⟨rfl, hS2, hF2⟩
      have g1 := (HS.out.fr hFW).keep hF2 h1 (HN.out _ (by omega))
      have g0 := (HS.out.fr hFW).keep hF2 h0 (HN.out _ (by omega))
      have HS2 : Hid (So w2 f o ty c s1 G bk ∧ Fr (fun b => b ∈ bk) w w2) := ⟨hS2, (hFW.mono (fun _ h => h.elim)).trans hF2 (fun _ h => .inl h)⟩
      clear hS2 hF2 h1 h0 hW hFW
      obtain ⟨q0, q1, z0, z1⟩ := cells2 g1
      obtain ⟨p0, p1, y0, y1⟩ := cells2 g0
      have l1 := blk_lt g1
      have l0 := blk_lt g0
      clear g1 g0
      go_wp2_with fail
      go_region
      all_goals
        go_wp2_with fail
        (try simp only [Exit.inBlock, Exit.then])
        refine bodyPost_ret (v := .tuple #[.int .i64 1, .agg #[.int .i32 y2, .int .i32 0]]) ?_ rfl ⟨rfl, HS.out.out HS2.out.1 (by repeat (first | with_reducible exact Fr.refl _ _ | (with_reducible refine Fr.drew ?_) | (with_reducible refine Fr.drewN ?_ _) | (with_reducible refine Fr.alloc ?_ _) | ((with_reducible refine Fr.setCell ?_ ?_ _); rotate_left; first | exact .inl rfl | exact .inr (Nat.le_refl _) | exact .inl (Nat.le_refl _) | (focus (left; simp; done)) | (focus (left; simp; omega)) | (focus (left; omega)) | (focus (right; simp; done)) | (focus (right; simp; omega)) | (focus (right; omega))))), (by repeat (first | with_reducible exact HS2.out.2 | (with_reducible refine Fr.drew ?_) | (with_reducible refine Fr.drewN ?_ _) | (with_reducible refine Fr.alloc ?_ _) | ((with_reducible refine Fr.setCell ?_ ?_ _); rotate_left; first | exact .inl rfl | exact .inr (Nat.le_refl _) | exact .inl (Nat.le_refl _) | (focus (left; simp; done)) | (focus (left; simp; omega)) | (focus (left; omega)) | (focus (right; simp; done)) | (focus (right; simp; omega)) | (focus (right; omega)))))⟩
        rw [results_tmp_cell rfl]
        go_simp
  split at hx
  · rename_i hk
    obtain ⟨y, hy, hx⟩ := bindO hx
    obtain ⟨s1, y2⟩ := y
    obtain ⟨x2, hx2, hx⟩ := bindO hx
    obtain ⟨z, hz, hx⟩ := bindO hx
    injection hx with hx
    injection hx with e1 e2
    subst e1 e2
    obtain ⟨s3, z2⟩ := z
    have HY : Hid (xFind n s x.a = some (s1, y2)) := hy
    have HX2 : Hid (xAt s1 t = some x2) := hx2
    have HZ : Hid (xFind n s1 x2.b = some (s3, z2)) := hz
    clear hy hx2 hz
    rcases hk with hk | hk
    all_goals
      rw [hk] at c0
      clear hk
      go_enter Tryz.func183, Tryz.ntmps183
      go_wp2_with fail
      refine (at_so (HS.out.fr (by repeat (first | with_reducible exact Fr.refl _ _ | (with_reducible refine Fr.drew ?_) | (with_reducible refine Fr.drewN ?_ _) | (with_reducible refine Fr.alloc ?_ _) | ((with_reducible refine Fr.setCell ?_ ?_ _); rotate_left; first | exact .inl rfl | exact .inr (Nat.le_refl _) | exact .inl (Nat.le_refl _) | (focus (left; simp; done)) | (focus (left; simp; omega)) | (focus (left; omega)) | (focus (right; simp; done)) | (focus (right; simp; omega)) | (focus (right; omega))) | exact Fr.refl _ _))) HX.out HD.out).mono ?_
      rintro r w1 ⟨rfl, rfl⟩
      go_wp2_with fail
      generalize hW : (w.alloc (.cells #[.int .i32 0, .int .i32 0] 275)).alloc (.cells #[.int .i32 0, .int .i32 0] 275) = W
      have hFW : Fr (fun _ => False) w W := by rw [← hW]; exact (by repeat (first | with_reducible exact Fr.refl _ _ | (with_reducible refine Fr.drew ?_) | (with_reducible refine Fr.drewN ?_ _) | (with_reducible refine Fr.alloc ?_ _) | ((with_reducible refine Fr.setCell ?_ ?_ _); rotate_left; first | exact .inl rfl | exact .inr (Nat.le_refl _) | exact .inl (Nat.le_refl _) | (focus (left; simp; done)) | (focus (left; simp; omega)) | (focus (left; omega)) | (focus (right; simp; done)) | (focus (right; simp; omega)) | (focus (right; omega))) | exact Fr.refl _ _))
      have h0 : W.heap[w.heap.size]? = some (.cells #[.int .i32 0, .int .i32 0] 275 (0, 0)) := by rw [← hW, Below.heap_alloc _ _ _ (by simp)]; exact blk_new w _
      have h1 : W.heap[w.heap.size + 1]? = some (.cells #[.int .i32 0, .int .i32 0] 275 (0, 0)) := by rw [← hW]; have := blk_new (w.alloc (.cells #[.int .i32 0, .int .i32 0] 275)) (.cells #[.int .i32 0, .int .i32 0] 275); simpa using this
      refine (find_so (HS.out.fr hFW) HY.out).mono ?_
      rintro r w2 ⟨rfl, hS2, hF2⟩
      have g1 := (HS.out.fr hFW).keep hF2 h1 (HN.out _ (by omega))
      have g0 := (HS.out.fr hFW).keep hF2 h0 (HN.out _ (by omega))
      have HF2 : Hid (Fr (fun b => b ∈ bk) w w2) := (hFW.mono (fun _ h => h.elim)).trans hF2 (fun _ h => .inl h)
      have G0 : Hid ((w2.setCell ⟨w.heap.size + 1, 0, none⟩ (.int .i32 y2)).heap[w.heap.size]? = some (.cells #[.int .i32 0, .int .i32 0] 275 (0, 0))) := (Below.heap_setCell _ _ _ _ (by show w.heap.size ≠ w.heap.size + 1; omega)).trans g0
      have G1 : Hid ((w2.setCell ⟨w.heap.size + 1, 0, none⟩ (.int .i32 y2)).heap[w.heap.size + 1]? = some (.cells #[.int .i32 y2, .int .i32 0] 275 (0, 0))) := blk_set g1 (by simp)
      have HS3 : Hid (So (w2.setCell ⟨w.heap.size + 1, 0, none⟩ (.int .i32 y2)) f o ty c s1 G bk) := HS.out.out hS2 (by repeat (first | with_reducible exact Fr.refl _ _ | (with_reducible refine Fr.drew ?_) | (with_reducible refine Fr.drewN ?_ _) | (with_reducible refine Fr.alloc ?_ _) | ((with_reducible refine Fr.setCell ?_ ?_ _); rotate_left; first | exact .inl rfl | exact .inr (Nat.le_refl _) | exact .inl (Nat.le_refl _) | (focus (left; simp; done)) | (focus (left; simp; omega)) | (focus (left; omega)) | (focus (right; simp; done)) | (focus (right; simp; omega)) | (focus (right; omega)))))
      obtain ⟨-, -, -, c3', -⟩ := HS3.out.six HX2.out HD.out |>.2
      obtain ⟨q0, q1, z0, z1⟩ := cells2 g1
      have l1 := blk_lt g1
      have hb2 : b < w2.heap.size := Nat.lt_of_lt_of_le hb HF2.out.size
      clear hS2 hF2 h1 h0 hW hFW g1 g0
      go_wp2_with fail
      refine (find_so HS3.out HZ.out).mono ?_
      rintro r w3 ⟨rfl, hS4, hF4⟩
      have g1 := HS3.out.keep hF4 G1.out (HN.out _ (by omega))
      have g0 := HS3.out.keep hF4 G0.out (HN.out _ (by omega))
      have HS4 : Hid (So w3 f o ty c s3 G bk ∧ Fr (fun b => b ∈ bk) w w3) := ⟨hS4, Fr.trans (O' := fun b => b ∈ bk) (by repeat (first | with_reducible exact HF2.out | (with_reducible refine Fr.drew ?_) | (with_reducible refine Fr.drewN ?_ _) | (with_reducible refine Fr.alloc ?_ _) | ((with_reducible refine Fr.setCell ?_ ?_ _); rotate_left; first | exact .inl rfl | exact .inr (Nat.le_refl _) | exact .inl (Nat.le_refl _) | (focus (left; simp; done)) | (focus (left; simp; omega)) | (focus (left; omega)) | (focus (right; simp; done)) | (focus (right; simp; omega)) | (focus (right; omega))))) hF4 (fun _ h => .inl h)⟩
      clear hS4 hF4 HF2 G0 G1 q0 q1 z0 z1 l1
      obtain ⟨q0, q1, z0, z1⟩ := cells2 g1
      obtain ⟨p0, p1, y0, y1⟩ := cells2 g0
      have l1 := blk_lt g1
      have l0 := blk_lt g0
      clear g1 g0
      go_wp2_with fail
      go_region
      all_goals
        go_wp2_with fail
        (try simp only [Exit.inBlock, Exit.then])
        refine bodyPost_ret (v := .tuple #[.int .i64 2, .agg #[.int .i32 y2, .int .i32 z2]]) ?_ rfl ⟨rfl, HS.out.out HS4.out.1 (by repeat (first | with_reducible exact Fr.refl _ _ | (with_reducible refine Fr.drew ?_) | (with_reducible refine Fr.drewN ?_ _) | (with_reducible refine Fr.alloc ?_ _) | ((with_reducible refine Fr.setCell ?_ ?_ _); rotate_left; first | exact .inl rfl | exact .inr (Nat.le_refl _) | exact .inl (Nat.le_refl _) | (focus (left; simp; done)) | (focus (left; simp; omega)) | (focus (left; omega)) | (focus (right; simp; done)) | (focus (right; simp; omega)) | (focus (right; omega))))), (by repeat (first | with_reducible exact HS4.out.2 | (with_reducible refine Fr.drew ?_) | (with_reducible refine Fr.drewN ?_ _) | (with_reducible refine Fr.alloc ?_ _) | ((with_reducible refine Fr.setCell ?_ ?_ _); rotate_left; first | exact .inl rfl | exact .inr (Nat.le_refl _) | exact .inl (Nat.le_refl _) | (focus (left; simp; done)) | (focus (left; simp; omega)) | (focus (left; omega)) | (focus (right; simp; done)) | (focus (right; simp; omega)) | (focus (right; omega)))))⟩
        rw [results_tmp_cell rfl]
        go_simp
  · rename_i hk1 hk2
    injection hx with hx
    injection hx with e1 e2
    subst e1 e2
    have k3 : ((x.k : Int) == 3) = false := by simp; omega
    have k4 : ((x.k : Int) == 4) = false := by simp; omega
    have k5 : ((x.k : Int) == 5) = false := by simp; omega
    have k6 : ((x.k : Int) == 6) = false := by simp; omega
    generalize (x.k : Int) = kk at *
    clear hk1 hk2
    go_enter Tryz.func183, Tryz.ntmps183
    go_wp2_with fail
    refine (at_so (HS.out.fr (by repeat (first | with_reducible exact Fr.refl _ _ | (with_reducible refine Fr.drew ?_) | (with_reducible refine Fr.drewN ?_ _) | (with_reducible refine Fr.alloc ?_ _) | ((with_reducible refine Fr.setCell ?_ ?_ _); rotate_left; first | exact .inl rfl | exact .inr (Nat.le_refl _) | exact .inl (Nat.le_refl _) | (focus (left; simp; done)) | (focus (left; simp; omega)) | (focus (left; omega)) | (focus (right; simp; done)) | (focus (right; simp; omega)) | (focus (right; omega))) | exact Fr.refl _ _))) HX.out HD.out).mono ?_
    rintro r w1 ⟨rfl, rfl⟩
    go_wp2_with fail
    go_region
    all_goals
      go_wp2_with fail
      (try simp only [Exit.inBlock, Exit.then])
      refine bodyPost_ret (v := .tuple #[.int .i64 0, .agg #[.int .i32 0, .int .i32 0]]) ?_ rfl ⟨rfl, HS.out.fr (by repeat (first | with_reducible exact Fr.refl _ _ | (with_reducible refine Fr.drew ?_) | (with_reducible refine Fr.drewN ?_ _) | (with_reducible refine Fr.alloc ?_ _) | ((with_reducible refine Fr.setCell ?_ ?_ _); rotate_left; first | exact .inl rfl | exact .inr (Nat.le_refl _) | exact .inl (Nat.le_refl _) | (focus (left; simp; done)) | (focus (left; simp; omega)) | (focus (left; omega)) | (focus (right; simp; done)) | (focus (right; simp; omega)) | (focus (right; omega))) | exact Fr.refl _ _)), (by repeat (first | with_reducible exact Fr.refl _ _ | (with_reducible refine Fr.drew ?_) | (with_reducible refine Fr.drewN ?_ _) | (with_reducible refine Fr.alloc ?_ _) | ((with_reducible refine Fr.setCell ?_ ?_ _); rotate_left; first | exact .inl rfl | exact .inr (Nat.le_refl _) | exact .inl (Nat.le_refl _) | (focus (left; simp; done)) | (focus (left; simp; omega)) | (focus (left; omega)) | (focus (right; simp; done)) | (focus (right; simp; omega)) | (focus (right; omega)))))⟩
      rw [results_tmp_cell rfl]
      go_simp
end
end Go.Proofs.YtklimomeendajaaGreatDoor

/- link, add. -/
namespace Go.Proofs.YtklimomeendajaaGreatDoor
open Go.RowKit

section
variable {w w' w1 w2 : World} {f o : Nat} {ty : TypeId} {c : Array Value} {s s' s2 : SX} {G G' : Value} {bk bk' : List Nat} {t : Int} {x x' : ND}

theorem xSet_xSet {y z : ND} : xSet (xSet s t y) t z = xSet s t z := by simp [xSet]

theorem xAt_set {y : ND} (hx : xAt s t = some x) : xAt (xSet s t y) t = some y := by
  unfold xAt at hx ⊢
  split at hx
  · rename_i h0
    obtain ⟨hlt, -⟩ := List.getElem?_eq_some_iff.1 hx
    rw [if_pos h0]
    simp [xSet, hlt]
  · cases hx

/-- All cells of a type are set. -/
theorem So.put6 (h : So w f o ty c s G bk) (hx : xAt s t = some x) {b m : Nat} (ha : adr bk t = ⟨b, m, none⟩) (y : ND) :
    So ((((((w.setCell ⟨b, m, none⟩ (.int .u8 (y.k : Int))).setCell ⟨b, m + 1, none⟩ (.bool y.op)).setCell ⟨b, m + 2, none⟩ (.int .i32 y.a)).setCell ⟨b, m + 3, none⟩ (.int .i32 y.b)).setCell ⟨b, m + 4, none⟩ (.int .i32 y.mrk)).setCell ⟨b, m + 5, none⟩ (.int .i32 y.nt)) f o ty c (xSet s t y) G bk := by
  have h0 := h.put (x' := { x with k := y.k }) hx ha (i := 0) (v := .int .u8 (y.k : Int)) (by decide) rfl
  have h1 := h0.put (x' := { x with k := y.k, op := y.op }) (xAt_set hx) ha (i := 1) (v := .bool y.op) (by decide) rfl
  rw [xSet_xSet] at h1
  have h2 := h1.put (x' := { x with k := y.k, op := y.op, a := y.a }) (xAt_set hx) ha (i := 2) (v := .int .i32 y.a) (by decide) rfl
  rw [xSet_xSet] at h2
  have h3 := h2.put (x' := { x with k := y.k, op := y.op, a := y.a, b := y.b }) (xAt_set hx) ha (i := 3) (v := .int .i32 y.b) (by decide) rfl
  rw [xSet_xSet] at h3
  have h4 := h3.put (x' := { x with k := y.k, op := y.op, a := y.a, b := y.b, mrk := y.mrk }) (xAt_set hx) ha (i := 4) (v := .int .i32 y.mrk) (by decide) rfl
  rw [xSet_xSet] at h4
  have h5 := h4.put (x' := y) (xAt_set hx) ha (i := 5) (v := .int .i32 y.nt) (by decide) rfl
  rw [xSet_xSet] at h5
  exact h5

set_option maxHeartbeats 3200000 in
set_option maxRecDepth 100000 in
theorem link_so (h : So w f o ty c s G bk) (hx : xAt s t = some x) (u : Int) :
    Calls Tryz.prog 248 #[.pointer (some ⟨f, o, none⟩), .int .i32 t, .int .i32 u] w fun r w' => r = .returned (.tuple #[]) ∧ So w' f o ty c (xLink s t u) G bk ∧ Fr (fun b => b ∈ bk) w w' := by
  obtain ⟨b, m, ha⟩ := adr_ex bk t
  obtain ⟨hb, c0, c1, c2, c3, c4, c5, hfz⟩ := h.six hx ha
  have HS : Hid (So w f o ty c s G bk) := h
  have HX : Hid (xAt s t = some x) := hx
  have HD : Hid (adr bk t = ⟨b, m, none⟩) := ha
  have HM : Hid (b ∈ bk) := adr_mem h hx ha
  have f0 := hfz m
  have f1 := hfz (m + 1)
  have f2 := hfz (m + 2)
  have f3 := hfz (m + 3)
  have f4 := hfz (m + 4)
  have f5 := hfz (m + 5)
  clear h hx ha hfz
  go_enter Tryz.func248, Tryz.ntmps248
  go_wp2_with fail
  refine (at_so HS.out HX.out HD.out).mono ?_
  rintro r w1 ⟨rfl, rfl⟩
  go_wp2_with fail
  go_end0
  have HP := HS.out.put6 HX.out HD.out { k := 7, a := u }
  refine ⟨rfl, ?_, ?_⟩
  · exact HP
  · repeat (first | with_reducible exact Fr.refl _ _ | refine Fr.setCell ?_ (.inl HM.out) _)
end
end Go.Proofs.YtklimomeendajaaGreatDoor

/- add. -/
namespace Go.Proofs.YtklimomeendajaaGreatDoor
open Go.RowKit

theorem Tryz.infoPB : (Tryz.prog.info? 267).map (fun i => (i.zero, i.size, i.bytes)) = some (some (.pointer none), 1, 8) := by kernel_rfl
theorem slPB : SlT Tryz.prog 148 267 (.pointer none) 1 8 := ⟨Tryz.underlying148, by
  cases hi : Tryz.prog.info? 267 with
  | none => have := Tryz.infoPB; rw [hi] at this; cases this
  | some i =>
    have := Tryz.infoPB
    rw [hi] at this
    simp only [Option.map_some, Option.some.injEq, Prod.mk.injEq] at this
    exact ⟨i, rfl, this.1, this.2.1, this.2.2⟩, rfl, by decide⟩

theorem zeroBlk : Array.toList Tryz.zeroCells270 = (List.range 256).flatMap fun _ => ndc {} := by kernel_rfl

theorem cells6 {w : World} {l : Nat} {a b c d e f : Value} {t : TypeId} (hb : w.heap[l]? = some (.cells #[a, b, c, d, e, f] t (0, 0))) :
    w.cell? ⟨l, 0, none⟩ = some a ∧ w.cell? ⟨l, 1, none⟩ = some b ∧ w.cell? ⟨l, 2, none⟩ = some c ∧ w.cell? ⟨l, 3, none⟩ = some d ∧ w.cell? ⟨l, 4, none⟩ = some e ∧ w.cell? ⟨l, 5, none⟩ = some f := by
  simp [World.cell?, hb]

theorem cell_new (w : World) {c : Array Value} {t : TypeId} {f : Nat × Nat} {k i : Nat} (hk : k = w.heap.size) : (w.alloc (.cells c t f)).cell? ⟨k, i, none⟩ = c[i]? := by
  subst hk
  simp only [World.cell?, blk_new w (.cells c t f)]
  rfl

section
variable {w w' w1 w2 : World} {f o : Nat} {ty : TypeId} {c : Array Value} {s s' s2 : SX} {G G' : Value} {bk bk' : List Nat} {t : Int} {x x' : ND}

theorem xAt_new : xAt { s with ns := s.ns ++ [x] } (s.ns.length : Int) = some x := by
  unfold xAt
  rw [if_pos (by omega)]
  simp

theorem xSet_new {y : ND} : xSet { s with ns := s.ns ++ [x] } (s.ns.length : Int) y = { s with ns := s.ns ++ [y] } := by
  simp [xSet]

set_option maxHeartbeats 1600000 in
set_option maxRecDepth 100000 in
theorem add_so (h : So w f o ty c s G bk) {n : ND} (hx : xAdd s n = some (s', t)) :
    Calls Tryz.prog 113 #[.pointer (some ⟨f, o, none⟩), .agg #[.int .u8 (n.k : Int), .bool n.op, .int .i32 n.a, .int .i32 n.b, .int .i32 n.mrk, .int .i32 n.nt]] w fun r w' => r = .returned (.int .i32 t) ∧ Sn f o ty c w G bk w' s' := by
  unfold xAdd at hx
  split at hx
  case isFalse => cases hx
  case isTrue hl =>
  injection hx with hx
  injection hx with e1 e2
  subst e1 e2
  have HS : Hid (So w f o ty c s G bk) := h
  obtain ⟨g0, g1, g2, hfz⟩ := h.cells
  have hf := h.flt
  have n0 := h.n0
  have n1 := h.n1
  obtain ⟨ga, gc, rfl⟩ := ownsRow_len h.row
  have hbl : bk.length ≤ 10000000 := by omega
  have HR : Hid (∀ W, Fr (fun _ => False) w W → W.ownsRow 0 267 1 (.slice ga bk.length gc) bk.length (bk.map ptrB)) := fun W hF => ownsRow_block HS.out.row fun b hb => hF.block b (HS.out.row.lt b hb).2 id
  have HK : Hid (∃ nk : Int, (n.k : Int) = nk) := ⟨_, rfl⟩
  obtain ⟨nk, hnk⟩ := HK.out
  have HNK : Hid ((n.k : Int) = nk) := hnk
  rw [hnk]
  have fo := hfz o
  have fo1 := hfz (o + 1)
  clear h hnk hfz HK
  have hl2 : s.ns.length < 2147483648 := by omega
  by_cases he : s.ns.length = bk.length * 256
  · have he' : ((s.ns.length : Int) == (bk.length : Int) * 256) = true := by simp; omega
    have HE : Hid (s.ns.length = bk.length * 256) := he
    have HN : Hid (s.ns.length ≤ bk.length * 256 ∧ bk.length * 256 ≤ s.ns.length + 256) := ⟨n0, n1⟩
    clear he n0 n1
    go_enter Tryz.func113, Tryz.ntmps113
    go_wp2_with fail
    go_quiet (fail)
    go_wp2_with (at_builtin; refine wpList_app slPB rfl (.tmp 21) (.tmp 24) rfl 0 bk.length (bk.map ptrB) _ rfl (HR.out _ (by repeat (first | with_reducible exact Fr.refl _ _ | (with_reducible refine Fr.drew ?_) | (with_reducible refine Fr.drewN ?_ _) | (with_reducible refine Fr.alloc ?_ _) | ((with_reducible refine Fr.setCell ?_ ?_ _); rotate_left; first | exact .inl rfl | exact .inr (Nat.le_refl _) | exact .inl (Nat.le_refl _) | (focus (left; simp; done)) | (focus (left; simp; omega)) | (focus (left; omega)) | (focus (right; simp; done)) | (focus (right; simp; omega)) | (focus (right; omega))) | exact Fr.refl _ _))) ⟨w.heap.size + 1 + 1, 0, none⟩ 1 1 [ptrB (w.heap.size + 1)] rfl rfl ?c1 ?c2 (by decide) ?b1 ?b2 ?b3 ?grow)
    case c1 => intro j u hj; match j, hj with | 0, hj => simp at hj; subst hj; rw [show (Addr.add ⟨w.heap.size + 1 + 1, 0, none⟩ 0) = ⟨w.heap.size + 1 + 1, 0, none⟩ from rfl, cell_new _ (by simp)]; rfl
    case c2 => intro u hu; simp at hu; rcases hu with rfl; rfl
    case b1 => unfold maxLen; omega
    case b2 => omega
    case b3 => simp
    case grow =>
      intro v' w3 hown hgrow hv g' cap hfm
      subst hfm
      have hz : (((w.alloc (.cells #[.int .u8 nk, .bool n.op, .int .i32 n.a, .int .i32 n.b, .int .i32 n.mrk, .int .i32 n.nt] 213)).drewN nq).alloc (.cells Tryz.zeroCells270 270)).heap[w.heap.size + 1]? = some (.cells Tryz.zeroCells270 270 (0, 0)) := by
        have := blk_new ((w.alloc (.cells #[.int .u8 nk, .bool n.op, .int .i32 n.a, .int .i32 n.b, .int .i32 n.mrk, .int .i32 n.nt] 213)).drewN nq) (.cells Tryz.zeroCells270 270)
        simpa using this
      have hn0 : (((w.alloc (.cells #[.int .u8 nk, .bool n.op, .int .i32 n.a, .int .i32 n.b, .int .i32 n.mrk, .int .i32 n.nt] 213)).drewN nq).alloc (.cells Tryz.zeroCells270 270)).heap[w.heap.size]? = some (.cells #[.int .u8 nk, .bool n.op, .int .i32 n.a, .int .i32 n.b, .int .i32 n.mrk, .int .i32 n.nt] 213 (0, 0)) := by
        rw [Below.heap_alloc _ _ _ (by simp)]
        exact blk_new w _
      generalize hW0 : ((w.alloc (.cells #[.int .u8 nk, .bool n.op, .int .i32 n.a, .int .i32 n.b, .int .i32 n.mrk, .int .i32 n.nt] 213)).drewN nq).alloc (.cells Tryz.zeroCells270 270) = W0 at *
      have hF0 : Fr (fun _ => False) w (W0.alloc (.cells #[.pointer (some ⟨w.heap.size + 1, 0, none⟩)] 267)) := by rw [← hW0]; exact (by repeat (first | with_reducible exact Fr.refl _ _ | (with_reducible refine Fr.drew ?_) | (with_reducible refine Fr.drewN ?_ _) | (with_reducible refine Fr.alloc ?_ _) | ((with_reducible refine Fr.setCell ?_ ?_ _); rotate_left; first | exact .inl rfl | exact .inr (Nat.le_refl _) | exact .inl (Nat.le_refl _) | (focus (left; simp; done)) | (focus (left; simp; omega)) | (focus (left; omega)) | (focus (right; simp; done)) | (focus (right; simp; omega)) | (focus (right; omega))) | exact Fr.refl _ _))
      have hsz0 : W0.heap.size = w.heap.size + 2 := by rw [← hW0]; simp
      obtain ⟨hB, hFB, hOB⟩ := HS.out.block hF0 hgrow ((Below.heap_alloc _ _ _ (by omega)).trans hz) (by omega) zeroBlk (by simpa using hown) (by rcases hv with hv | hv; exact .inl hv; exact .inr (by rw [hv]; simp [hsz0])) HE.out
      have hgW : (Value.slice ga bk.length gc).ownBlock ≠ some w.heap.size := fun e => by have := (HS.out.row.lt _ e).2; omega
      have hn3 : w3.heap[w.heap.size]? = some (.cells #[.int .u8 nk, .bool n.op, .int .i32 n.a, .int .i32 n.b, .int .i32 n.mrk, .int .i32 n.nt] 213 (0, 0)) := (hgrow.block _ (by simp; omega) (fun e => hgW e.symm)).trans ((Below.heap_alloc _ _ _ (by omega)).trans hn0)
      have hf3 : w3.heap[f]? = w.heap[f]? := (hF0.mono (fun _ h => h.elim) |>.grown (O := fun b => (Value.slice ga bk.length gc).ownBlock = some b) hgrow (fun k hk => .inl hk)).block f hf HS.out.gf
      have k0 := World.cell?_of_block (w := w) (a := ⟨f, o, none⟩) hf3
      have z0 := World.frozen?_of_block (w := w) (a := ⟨f, o, none⟩) hf3
      rw [g0] at k0
      rw [fo] at z0
      have hf3' : f < w3.heap.size := Nat.lt_of_lt_of_le hf (Nat.le_trans hF0.size hgrow.size)
      have hM := hB.more (by have := HE.out; simp; omega) hl
      obtain ⟨q0, q1, q2, qz⟩ := hB.cells
      have qz1 := qz (o + 1)
      obtain ⟨b, m, ha⟩ := adr_ex (bk ++ [w.heap.size + 1]) (s.ns.length : Int)
      obtain ⟨hb6, d0, d1, d2, d3, d4, d5, dz⟩ := hM.six xAt_new ha
      have y0 := dz m
      have y1 := dz (m + 1)
      have y2 := dz (m + 2)
      have y3 := dz (m + 3)
      have y4 := dz (m + 4)
      have y5 := dz (m + 5)
      have hfs : w.heap.size ≠ f := by omega
      have hN4 : Hid (((w3.setCell ⟨f, o, none⟩ (.slice (some ⟨g', 0, none⟩) (bk.length + 1) cap)).setCell ⟨f, o + 1, none⟩ (.int .i64 ((s.ns.length : Int) + 1))).heap[w.heap.size]? = some (.cells #[.int .u8 nk, .bool n.op, .int .i32 n.a, .int .i32 n.b, .int .i32 n.mrk, .int .i32 n.nt] 213 (0, 0))) := (Below.heap_setCell _ _ _ _ hfs).trans ((Below.heap_setCell _ _ _ _ hfs).trans hn3)
      have hl3 := blk_lt hn3
      obtain ⟨p0, p1, p2, p3, p4, p5⟩ := cells6 hN4.out
      have HM : Hid (So _ f o ty c { s with ns := s.ns ++ [{}] } _ (bk ++ [w.heap.size + 1])) := hM
      have HF : Hid (Fr (sown f (.slice ga bk.length gc) bk) w (w3.setCell ⟨f, o, none⟩ (.slice (some ⟨g', 0, none⟩) (bk.length + 1) cap))) := hFB
      have HO : Hid (∀ b, sown f (.slice (some ⟨g', 0, none⟩) (bk.length + 1) cap) (bk ++ [w.heap.size + 1]) b → sown f (.slice ga bk.length gc) bk b ∨ w.heap.size ≤ b) := hOB
      have HA : Hid (adr (bk ++ [w.heap.size + 1]) (s.ns.length : Int) = ⟨b, m, none⟩) := ha
      clear hM hFB hOB ha dz qz hB hf3 hgW hn0 hn3 hz hown hgrow hv hW0 hF0 HR hN4 g0 g1 g2 fo fo1 he'
      have hbm := HO.out b (.inr (.inr (adr_mem HM.out xAt_new HA.out)))
      have h6 := HM.out.put6 xAt_new HA.out n
      rw [HNK.out, xSet_new] at h6
      have HBM : Hid (sown f (.slice ga bk.length gc) bk b ∨ w.heap.size ≤ b) := hbm
      have H6 : Hid (So _ f o ty c { s with ns := s.ns ++ [n] } _ _) := h6.fr ((Fr.refl _ _).drew)
      have HFF : Hid (Fr (sown f (.slice ga bk.length gc) bk) w ((w3.setCell ⟨f, o, none⟩ (.slice (some ⟨g', 0, none⟩) (bk.length + 1) cap)).setCell ⟨f, o + 1, none⟩ (.int .i64 ((s.ns.length : Int) + 1)))) := HF.out.setCell (.inl (.inl rfl)) _
      clear hbm h6
      go_wp2_with fail
      go_region_law (rw [if_pos (by simp [Region.wanted])]; unfold Oper.wp; go_simp; go_at_call 168; refine (at_so (HM.out.fr (by repeat (first | with_reducible exact Fr.refl _ _ | (with_reducible refine Fr.drew ?_) | (with_reducible refine Fr.drewN ?_ _) | (with_reducible refine Fr.alloc ?_ _) | ((with_reducible refine Fr.setCell ?_ ?_ _); rotate_left; first | exact .inl rfl | exact .inr (Nat.le_refl _) | exact .inl (Nat.le_refl _) | (focus (left; simp; done)) | (focus (left; simp; omega)) | (focus (left; omega)) | (focus (right; simp; done)) | (focus (right; simp; omega)) | (focus (right; omega))) | exact Fr.refl _ _))) xAt_new HA.out).mono ?_; rintro r w5 ⟨rfl, rfl⟩)
      all_goals
        go_wp2_with fail
        go_ret
        refine ⟨rfl, _, _, ?_, ?_, HO.out⟩
        · with_reducible exact H6.out
        · repeat (first | with_reducible exact HFF.out | with_reducible refine Fr.drew ?_ | with_reducible refine Fr.setCell ?_ HBM.out _)
  · have he' : ((s.ns.length : Int) == (bk.length : Int) * 256) = false := by simp; omega
    have HL : Hid (s.ns.length < bk.length * 256) := by show s.ns.length < bk.length * 256; omega
    clear he n0 n1 HR
    go_enter Tryz.func113, Tryz.ntmps113
    go_wp2_with fail
    go_quiet (fail)
    generalize hW1 : (w.alloc (.cells #[.int .u8 nk, .bool n.op, .int .i32 n.a, .int .i32 n.b, .int .i32 n.mrk, .int .i32 n.nt] 213)).drewN nq = W1
    have hF1 : Fr (fun _ => False) w W1 := by rw [← hW1]; exact (by repeat (first | with_reducible exact Fr.refl _ _ | (with_reducible refine Fr.drew ?_) | (with_reducible refine Fr.drewN ?_ _) | (with_reducible refine Fr.alloc ?_ _) | ((with_reducible refine Fr.setCell ?_ ?_ _); rotate_left; first | exact .inl rfl | exact .inr (Nat.le_refl _) | exact .inl (Nat.le_refl _) | (focus (left; simp; done)) | (focus (left; simp; omega)) | (focus (left; omega)) | (focus (right; simp; done)) | (focus (right; simp; omega)) | (focus (right; omega))) | exact Fr.refl _ _))
    have hn1 : W1.heap[w.heap.size]? = some (.cells #[.int .u8 nk, .bool n.op, .int .i32 n.a, .int .i32 n.b, .int .i32 n.mrk, .int .i32 n.nt] 213 (0, 0)) := by rw [← hW1]; exact blk_new w _
    have hS1 := HS.out.fr hF1
    obtain ⟨r0, r1, r2, rz⟩ := hS1.cells
    have r3 := rz (o + 1)
    have hf1 := hS1.flt
    have hM := hS1.more HL.out hl
    obtain ⟨b, m, ha⟩ := adr_ex bk (s.ns.length : Int)
    obtain ⟨hb6, d0, d1, d2, d3, d4, d5, dz⟩ := hM.six xAt_new ha
    have y0 := dz m
    have y1 := dz (m + 1)
    have y2 := dz (m + 2)
    have y3 := dz (m + 3)
    have y4 := dz (m + 4)
    have y5 := dz (m + 5)
    have HM : Hid (So _ f o ty c { s with ns := s.ns ++ [{}] } _ bk) := hM
    have HA : Hid (adr bk (s.ns.length : Int) = ⟨b, m, none⟩) := ha
    have hfs : w.heap.size ≠ f := by omega
    have hN4 : (W1.setCell ⟨f, o + 1, none⟩ (.int .i64 ((s.ns.length : Int) + 1))).heap[w.heap.size]? = some (.cells #[.int .u8 nk, .bool n.op, .int .i32 n.a, .int .i32 n.b, .int .i32 n.mrk, .int .i32 n.nt] 213 (0, 0)) := (Below.heap_setCell _ _ _ _ hfs).trans hn1
    have hl3 := blk_lt hn1
    obtain ⟨p0, p1, p2, p3, p4, p5⟩ := cells6 hN4
    have h6 := hM.put6 xAt_new ha n
    rw [HNK.out, xSet_new] at h6
    have H6 : Hid (So _ f o ty c { s with ns := s.ns ++ [n] } _ _) := h6.fr ((Fr.refl _ _).drew)
    have HBM : Hid (sown f (.slice ga bk.length gc) bk b ∨ w.heap.size ≤ b) := .inl (.inr (.inr (adr_mem hM xAt_new ha)))
    have HFF : Hid (Fr (sown f (.slice ga bk.length gc) bk) w (W1.setCell ⟨f, o + 1, none⟩ (.int .i64 ((s.ns.length : Int) + 1)))) := (hF1.mono (fun _ h => h.elim)).setCell (.inl (.inl rfl)) _
    clear hM ha dz h6 hN4 hn1 hS1 rz hF1 hW1 g0 g1 g2 fo fo1
    go_wp2_with fail
    go_region_law (rw [if_pos (by simp [Region.wanted])]; unfold Oper.wp; go_simp; go_at_call 168; refine (at_so (HM.out.fr (by repeat (first | with_reducible exact Fr.refl _ _ | (with_reducible refine Fr.drew ?_) | (with_reducible refine Fr.drewN ?_ _) | (with_reducible refine Fr.alloc ?_ _) | ((with_reducible refine Fr.setCell ?_ ?_ _); rotate_left; first | exact .inl rfl | exact .inr (Nat.le_refl _) | exact .inl (Nat.le_refl _) | (focus (left; simp; done)) | (focus (left; simp; omega)) | (focus (left; omega)) | (focus (right; simp; done)) | (focus (right; simp; omega)) | (focus (right; omega))) | exact Fr.refl _ _))) xAt_new HA.out).mono ?_; rintro r w5 ⟨rfl, rfl⟩)
    all_goals
      go_wp2_with fail
      go_ret
      refine ⟨rfl, .slice ga bk.length gc, [], ?_, ?_, ?_⟩
      · rw [List.append_nil]
        with_reducible exact H6.out
      · repeat (first | with_reducible exact HFF.out | with_reducible refine Fr.drew ?_ | with_reducible refine Fr.setCell ?_ HBM.out _)
      · intro b' hb'
        rw [List.append_nil] at hb'
        exact .inl hb'
end
end Go.Proofs.YtklimomeendajaaGreatDoor

/- Unknown, List, Cont, Pair, Function. -/
namespace Go.Proofs.YtklimomeendajaaGreatDoor
open Go.RowKit

theorem ownsRow_cut {w : World} {base : Nat} {e : TypeId} {size : Nat} {a : Option Addr} {n cap : Nat} {xs : List Value} (h : w.ownsRow base e size (.slice a n cap) n xs) {k : Nat} (hk : k ≤ n) : w.ownsRow base e size (.slice a k cap) k (xs.take (k * size)) := by
  obtain ⟨h1, h2⟩ := h
  have hm : k * size ≤ n * size := Nat.mul_le_mul_right _ hk
  refine ⟨by rw [List.length_take]; omega, ?_⟩
  rcases h2 with ⟨h3, h4⟩ | ⟨g, cap', cur, h3, h4, h5, h6, h7, h8, h9⟩
  · simp only [Value.slice.injEq] at h3
    obtain ⟨rfl, -, rfl⟩ := h3
    obtain rfl : k = 0 := by omega
    exact .inl ⟨rfl, rfl⟩
  · simp only [Value.slice.injEq] at h3
    obtain ⟨rfl, -, rfl⟩ := h3
    refine .inr ⟨g, cap, cur, rfl, h4, h5, by omega, h7, h8, ?_⟩
    rw [← h9, List.take_take]
    congr 1
    omega

theorem ownsRow_cap {w : World} {base : Nat} {e : TypeId} {size : Nat} {a : Option Addr} {n cap : Nat} {xs : List Value} (h : w.ownsRow base e size (.slice a n cap) n xs) : n ≤ cap := by
  rcases h.2 with ⟨h3, h4⟩ | ⟨g, cap', cur, h3, h4, h5, h6, h7, h8, h9⟩
  · omega
  · simp only [Value.slice.injEq] at h3
    obtain ⟨-, -, rfl⟩ := h3
    exact h6

section
variable {w w' w1 w2 : World} {f o : Nat} {ty : TypeId} {c : Array Value} {s s' s2 : SX} {G G' : Value} {bk bk' : List Nat} {t : Int} {x x' : ND}

theorem add_at (h : So w f o ty c s G bk) (k : Nat) (kv a b : Int) (hk : (k : Int) = kv) (hx : xAdd s { k := k, a := a, b := b } = some (s', t)) :
    Calls Tryz.prog 113 #[.pointer (some ⟨f, o, none⟩), .agg #[.int .u8 kv, .bool false, .int .i32 a, .int .i32 b, .int .i32 0, .int .i32 0]] w fun r w' => r = .returned (.int .i32 t) ∧ Sn f o ty c w G bk w' s' := by
  have h2 := add_so h hx
  dsimp only at h2
  rw [hk] at h2
  exact h2

set_option maxHeartbeats 1600000 in
set_option maxRecDepth 100000 in
theorem unknown_so (h : So w f o ty c s G bk) (hx : xAdd s {} = some (s', t)) :
    Calls Tryz.prog 119 #[.pointer (some ⟨f, o, none⟩)] w fun r w' => r = .returned (.int .i32 t) ∧ Sn f o ty c w G bk w' s' := by
  have HS : Hid (So w f o ty c s G bk) := h
  have HX : Hid (xAdd s {} = some (s', t)) := hx
  clear h hx
  go_enter Tryz.func119, Tryz.ntmps119
  go_wp2_with fail
  refine (add_at HS.out 0 0 0 0 rfl HX.out).mono ?_
  rintro r w1 ⟨rfl, hN⟩
  go_wp2_with fail
  go_ret
  exact ⟨rfl, hN⟩

set_option maxHeartbeats 1600000 in
set_option maxRecDepth 100000 in
theorem list_so (h : So w f o ty c s G bk) {a : Int} (hx : xAdd s { k := 3, a := a } = some (s', t)) :
    Calls Tryz.prog 171 #[.pointer (some ⟨f, o, none⟩), .int .i32 a] w fun r w' => r = .returned (.int .i32 t) ∧ Sn f o ty c w G bk w' s' := by
  have HS : Hid (So w f o ty c s G bk) := h
  have HX : Hid (xAdd s { k := 3, a := a } = some (s', t)) := hx
  clear h hx
  go_enter Tryz.func171, Tryz.ntmps171
  go_wp2_with fail
  refine (add_at HS.out 3 3 a 0 rfl HX.out).mono ?_
  rintro r w1 ⟨rfl, hN⟩
  go_wp2_with fail
  go_ret
  exact ⟨rfl, hN⟩

set_option maxHeartbeats 1600000 in
set_option maxRecDepth 100000 in
theorem cont_so (h : So w f o ty c s G bk) {a : Int} (hx : xAdd s { k := 4, a := a } = some (s', t)) :
    Calls Tryz.prog 228 #[.pointer (some ⟨f, o, none⟩), .int .i32 a] w fun r w' => r = .returned (.int .i32 t) ∧ Sn f o ty c w G bk w' s' := by
  have HS : Hid (So w f o ty c s G bk) := h
  have HX : Hid (xAdd s { k := 4, a := a } = some (s', t)) := hx
  clear h hx
  go_enter Tryz.func228, Tryz.ntmps228
  go_wp2_with fail
  refine (add_at HS.out 4 4 a 0 rfl HX.out).mono ?_
  rintro r w1 ⟨rfl, hN⟩
  go_wp2_with fail
  go_ret
  exact ⟨rfl, hN⟩

set_option maxHeartbeats 1600000 in
set_option maxRecDepth 100000 in
theorem pair_so (h : So w f o ty c s G bk) {a b : Int} (hx : xAdd s { k := 5, a := a, b := b } = some (s', t)) :
    Calls Tryz.prog 172 #[.pointer (some ⟨f, o, none⟩), .int .i32 a, .int .i32 b] w fun r w' => r = .returned (.int .i32 t) ∧ Sn f o ty c w G bk w' s' := by
  have HS : Hid (So w f o ty c s G bk) := h
  have HX : Hid (xAdd s { k := 5, a := a, b := b } = some (s', t)) := hx
  clear h hx
  go_enter Tryz.func172, Tryz.ntmps172
  go_wp2_with fail
  refine (add_at HS.out 5 5 a b rfl HX.out).mono ?_
  rintro r w1 ⟨rfl, hN⟩
  go_wp2_with fail
  go_ret
  exact ⟨rfl, hN⟩

set_option maxHeartbeats 1600000 in
set_option maxRecDepth 100000 in
theorem function_so (h : So w f o ty c s G bk) {a b : Int} (hx : xAdd s { k := 6, a := a, b := b } = some (s', t)) :
    Calls Tryz.prog 225 #[.pointer (some ⟨f, o, none⟩), .int .i32 a, .int .i32 b] w fun r w' => r = .returned (.int .i32 t) ∧ Sn f o ty c w G bk w' s' := by
  have HS : Hid (So w f o ty c s G bk) := h
  have HX : Hid (xAdd s { k := 6, a := a, b := b } = some (s', t)) := hx
  clear h hx
  go_enter Tryz.func225, Tryz.ntmps225
  go_wp2_with fail
  refine (add_at HS.out 6 6 a b rfl HX.out).mono ?_
  rintro r w1 ⟨rfl, hN⟩
  go_wp2_with fail
  go_ret
  exact ⟨rfl, hN⟩
end
end Go.Proofs.YtklimomeendajaaGreatDoor
