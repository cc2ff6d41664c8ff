/- The document's bag: its block, its rows; there, Add. -/
import Derived.Test.YtjnjpphbclepbaaH8
import Derived.Deep.RegionHeld3
import Derived.Deep.CutRange
namespace Go.Proofs.Ytjnjpphbclepbaa
open Go Go.RowKit
set_option maxRecDepth 20000
theorem psAt_keep {w w' : World} {a : Option Addr} {len : Nat} {l : List Pkt} (h : PsAt w a len l) (hb : ∀ g off, a = some ⟨g, off, none⟩ → w'.heap[g]? = w.heap[g]?) (hs : w.heap.size ≤ w'.heap.size) : PsAt w' a len l :=
  ⟨h.size, fun h0 => by
    obtain ⟨g, off, e, hl, hf⟩ := h.lies h0
    exact ⟨g, off, e, by omega, fun i hi => (hf i hi).kept (hb g off e)⟩⟩
theorem bsAt_keep {w w' : World} {a : Option Addr} {len : Nat} {l : List Bool} (h : BsAt w a len l) (hb : ∀ g off, a = some ⟨g, off, none⟩ → w'.heap[g]? = w.heap[g]?) (hs : w.heap.size ≤ w'.heap.size) : BsAt w' a len l :=
  ⟨h.size, fun h0 => by
    obtain ⟨g, off, e, hl, hf⟩ := h.lies h0
    exact ⟨g, off, e, by omega, fun i hi => (hf i hi).kept (hb g off e)⟩⟩
/-- In block b lies the document's bag: its packets in the slice v, its marks in u. -/
structure Bd (B : Nat) (w : World) (b : Nat) (v u : Value) (ps : List Pkt) (ms : List Bool) : Prop where
  lo : B ≤ b
  blk : w.heap[b]? = some (.cells #[v, u] 29 (0, 0))
  row : RowP B w v ps
  mks : RowB B w u ms
section
variable {B : Nat} {w w' : World} {b : Nat} {v u : Value} {ps : List Pkt} {ms : List Bool}
theorem Bd.c0 (h : Bd B w b v u ps ms) : w.cell? ⟨b, 0, none⟩ = some v := cell_at h.blk 0 _ rfl
theorem Bd.c1 (h : Bd B w b v u ps ms) : w.cell? ⟨b, 1, none⟩ = some u := cell_at h.blk 1 _ rfl
theorem Bd.f0 (h : Bd B w b v u ps ms) (i : Nat) : w.frozen? ⟨b, i, none⟩ = false := unfrozen_at h.blk i
theorem Bd.lt (h : Bd B w b v u ps ms) : b < w.heap.size := (Array.getElem?_eq_some_iff.1 h.blk).1
theorem Bd.same (h : Bd B w b v u ps ms) (hb : w'.heap[b]? = w.heap[b]?) (hv : ∀ j, v.ownBlock = some j → w'.heap[j]? = w.heap[j]?) (hu : ∀ j, u.ownBlock = some j → w'.heap[j]? = w.heap[j]?) : Bd B w' b v u ps ms := ⟨h.lo, hb.trans h.blk, h.row.same hv, h.mks.same hu⟩
theorem Bd.next (h : Bd B w b v u ps ms) (hb : Below w.heap.size w w') : Bd B w' b v u ps ms := h.same (hb.block b h.lt) (fun j hj => hb.block j (h.row.lt j hj).2) (fun j hj => hb.block j (h.mks.lt j hj).2)
theorem Bd.asit (h : Bd B w b v u ps ms) (e : w'.heap = w.heap) : Bd B w' b v u ps ms := h.same (by rw [e]) (fun j _ => by rw [e]) (fun j _ => by rw [e])
theorem Bd.lower {B' : Nat} (h : Bd B w b v u ps ms) (hB : B' ≤ B) : Bd B' w b v u ps ms := ⟨Nat.le_trans hB h.lo, h.blk, h.row.lower hB, h.mks.lower hB⟩
theorem Bd.bkw (h : Bd B w b v u ps ms) (hb : BkW B w w') : Bd B w' b v u ps ms :=
  h.same ((hb.cells h.blk (by decide) (by decide)).trans h.blk.symm) (fun j hj => by
    obtain ⟨cur, hc⟩ := h.row.typ j hj
    exact (hb.cells hc (by decide) (by decide)).trans hc.symm) (fun j hj => by
    obtain ⟨cur, hc⟩ := h.mks.typ j hj
    exact (hb.cells hc (by decide) (by decide)).trans hc.symm)
/-- A field stored, a row of its own behind it. -/
theorem bd_put0 {w8 : World} {v2 : Value} {ps2 : List Pkt} (h : Bd B w b v u ps ms) (hW : Below w.heap.size w w8) (hr : RowP w.heap.size w8 v2 ps2) : Bd B (w8.setCell ⟨b, 0, none⟩ v2) b v2 u ps2 ms ∧ w.grownBy (w8.setCell ⟨b, 0, none⟩ v2) (some b) := by
  have h1 := h.next hW
  have hB : B ≤ w.heap.size := Nat.le_trans h.lo (Nat.le_of_lt h.lt)
  refine ⟨⟨h.lo, set_heap h1.blk v2, (hr.lower hB).same fun j hj => Below.heap_setCell _ _ _ _ (fun e => by
    obtain ⟨cur, hc⟩ := hr.typ j hj
    exact two_types hc h1.blk (by decide) e), h1.mks.same fun j hj => Below.heap_setCell _ _ _ _ (fun e => by
    obtain ⟨cur, hc⟩ := h1.mks.typ j hj
    exact two_types hc h1.blk (by decide) e)⟩, ?_⟩
  exact World.grownBy.trans (grownOf (some b) hW) (grown_set w8 b 0 v2)
theorem bd_put1 {w8 : World} {u2 : Value} {ms2 : List Bool} (h : Bd B w b v u ps ms) (hW : Below w.heap.size w w8) (hr : RowB w.heap.size w8 u2 ms2) : Bd B (w8.setCell ⟨b, 1, none⟩ u2) b v u2 ps ms2 ∧ w.grownBy (w8.setCell ⟨b, 1, none⟩ u2) (some b) := by
  have h1 := h.next hW
  have hB : B ≤ w.heap.size := Nat.le_trans h.lo (Nat.le_of_lt h.lt)
  refine ⟨⟨h.lo, set_heap h1.blk u2, h1.row.same fun j hj => Below.heap_setCell _ _ _ _ (fun e => by
    obtain ⟨cur, hc⟩ := h1.row.typ j hj
    exact two_types hc h1.blk (by decide) e), (hr.lower hB).same fun j hj => Below.heap_setCell _ _ _ _ (fun e => by
    obtain ⟨cur, hc⟩ := hr.typ j hj
    exact two_types hc h1.blk (by decide) e)⟩, ?_⟩
  exact World.grownBy.trans (grownOf (some b) hW) (grown_set w8 b 1 u2)
end
section
variable {B b : Nat} {v u : Value} {ps : List Pkt} {ms : List Bool}
set_option maxHeartbeats 400000 in
theorem there_any (i : Int) (hs : Bool) (hhs : decide (0 ≤ i ∧ i < (ps.length : Int)) = hs) (w : World) (h : Bd B w b v u ps ms) : Calls Try.prog 28 #[.pointer (some ⟨b, 0, none⟩), .int .i64 i] w fun x w' => x = .returned (.bool hs) ∧ w' = w := by
  obtain ⟨a, c, rfl, _⟩ := h.row.is
  have c0 := h.c0
  generalize ps.length = n at *
  clear h
  by_cases h1 : 0 ≤ i
  · have q : decide (0 ≤ i) = true := by simpa using h1
    obtain rfl : decide (i < (n : Int)) = hs := by rw [← hhs]; simp [h1]
    clear h1
    go_enter Try.func28, Try.ntmps28
    go_wp2
    go_ret
    exact ⟨rfl, rfl⟩
  · have q : decide (0 ≤ i) = false := by simpa using h1
    have q2 : hs = false := by rw [← hhs]; simp [h1]
    subst q2
    clear hhs h1
    go_enter Try.func28, Try.ntmps28
    go_wp2
    go_ret
    exact ⟨rfl, rfl⟩
set_option maxHeartbeats 16000000 in
theorem dadd_any (pa : Option Addr) (pl pc : Nat) (qs : List Pkt) (w : World) (h : Bd B w b v u ps ms) (hp : PsAt w pa pl qs) (hpn : 0 < pl → ∀ g off, pa = some ⟨g, off, none⟩ → g ≠ b) (hlen : ps.length ≤ 4096) (hms : ms.length ≤ 4096) (hpl : pl ≤ 1000) :
    Calls Try.prog 20 #[.pointer (some ⟨b, 0, none⟩), .slice pa pl pc] w fun x w' => x = .returned (.int .i64 (min qs.length (4096 - ps.length) : Nat)) ∧ (∃ v' u', Bd B w' b v' u' (ps ++ qs.take (min qs.length (4096 - ps.length))) (ms ++ List.replicate (min qs.length (4096 - ps.length)) false)) ∧ w.grownBy w' (some b) := by
  obtain ⟨N, hN⟩ : ∃ N, min qs.length (4096 - ps.length) = N := ⟨_, rfl⟩
  have hqs := hp.size
  have hNle : N ≤ pl := by omega
  have hNl : ps.length + N ≤ 4096 := by omega
  have hNx : N = pl ∨ ps.length + N = 4096 := by omega
  rw [hN]
  have HP := Lib.hid hp
  have HPN := Lib.hid hpn
  have HQ0 := Lib.hid h
  have HMS := Lib.hid hms
  have HNX := Lib.hid hNx
  have HNL := Lib.hid hNl
  have HQS := Lib.hid hqs
  clear h hp hpn hN hlen hms hNx hNl hqs
  go_enter Try.func20, Try.ntmps20
  go_wp2_with fail
  go_loopw [5] (fun v5 wr => ∃ k : Nat, k ≤ N ∧ v5 = .int .i64 k ∧ (∃ v' u', Bd B wr b v' u' (ps ++ qs.take k) (ms ++ List.replicate k false)) ∧ w.grownBy wr (some b)) (fun v5 _ => N - (intOf v5).toNat)
  case atStart => exact ⟨0, Nat.zero_le _, rfl, ⟨_, _, by simpa using HQ0.out⟩, World.grownBy.refl _ _⟩
  case round =>
    obtain ⟨k, hk, rfl, ⟨v', u', hbd⟩, hgr⟩ := hrel
    obtain ⟨a, c, rfl, _⟩ := hbd.row.is
    have HLL : Hid ((ps ++ qs.take k).length = ps.length + k) := Lib.hid (by rw [List.length_append, List.length_take, HQS.out]; omega)
    have ck := hbd.c0
    rw [HLL.out] at ck
    have HBD := Lib.hid hbd
    have HGR := Lib.hid hgr
    clear hbd hgr
    by_cases hlt : k < N
    · have q1 : (k : Int) < (pl : Int) := by omega
      have hn : ps.length + k < 4096 := by have := HNL.out; omega
      obtain ⟨n, hnn⟩ : ∃ n, ps.length + k = n := ⟨_, rfl⟩
      rw [hnn] at hn ck HLL
      have q2 : (n : Int) < 4096 := by omega
      have HNN : Hid (n ≤ 4096) := Lib.hid (by omega)
      clear hnn
      obtain ⟨g, off, rfl, hgl, hf⟩ := HP.out.lies (show 0 < pl by omega)
      have hgb : g ≠ b := HPN.out (by omega) g off rfl
      have hfk := (hf k (by omega)).kept (HGR.out.block g hgl (fun e => hgb (by cases e; rfl)))
      obtain ⟨⟨pf, pt, pd⟩, hpk⟩ : ∃ p, qs.getD k pk0 = p := ⟨_, rfl⟩
      rw [hpk] at hfk
      have HTM : Hid (qs.take (k + 1) = qs.take k ++ [(pf, pt, pd)]) := Lib.hid (by rw [List.take_add_one, ← hpk]; have := HQS.out; simp [List.getD_eq_getElem?_getD, show k < qs.length by omega])
      have x0 := hfk.fr
      have x1 := hfk.to
      have x2 := hfk.d
      simp only at x0 x1 x2
      have HGB := Lib.hid hgb
      have HGL : Hid (g < wr.heap.size) := Lib.hid (Nat.lt_of_lt_of_le hgl HGR.out.size)
      clear hgl hf hfk hpk hgb
      go_upto_region 3 with fail
      obtain ⟨w0, hw0⟩ : ∃ w0, w0 = wr := ⟨_, rfl⟩
      subst hw0
      have HQ := HBD
      obtain ⟨xs, hxs⟩ : ∃ xs, ps ++ qs.take k = xs := ⟨_, rfl⟩
      obtain ⟨ys, hys⟩ : ∃ ys, ms ++ List.replicate k false = ys := ⟨_, rfl⟩
      rw [HLL.out] at HQ
      rw [hxs, hys] at HQ
      rw [hxs] at HLL
      have HX := Lib.hid (HQ.out.row.isP HLL.out.symm).1
      have HC := Lib.hid (HQ.out.row.isP HLL.out.symm).2
      have HSZ := HLL
      have HKS : Hid (∀ W, Below w0.heap.size w0 W → W.cell? ⟨g, off + k * 3, none⟩ = some (.int .i64 pf) ∧ W.cell? ⟨g, off + k * 3 + 1, none⟩ = some (.int .i64 pt) ∧ W.cell? ⟨g, off + k * 3 + 2, none⟩ = some (.string pd)) := Lib.hid fun W hW => ⟨(hW.cell HGL.out).trans x0, (hW.cell HGL.out).trans x1, (hW.cell HGL.out).trans x2⟩
      have HKT : Hid (∀ W z, Below w0.heap.size w0 W → (W.setCell ⟨b, 0, none⟩ z).cell? ⟨g, off + k * 3, none⟩ = some (.int .i64 pf) ∧ (W.setCell ⟨b, 0, none⟩ z).cell? ⟨g, off + k * 3 + 1, none⟩ = some (.int .i64 pt) ∧ (W.setCell ⟨b, 0, none⟩ z).cell? ⟨g, off + k * 3 + 2, none⟩ = some (.string pd)) := Lib.hid fun W z hW => by
        have hc : ∀ j, (W.setCell ⟨b, 0, none⟩ z).cell? ⟨g, j, none⟩ = W.cell? ⟨g, j, none⟩ := fun j => by
          unfold World.cell?
          rw [Below.heap_setCell _ _ _ _ HGB.out]
        rw [hc, hc, hc]
        exact HKS.out W hW
      have HW0 : Hid (Below w0.heap.size w0 w0.drew) := Lib.hid (Below.refl w0.heap.size w0).drew
      have hk0 := HKS.out _ HW0.out
      have ck0 := HQ.out.c0
      clear ck
      go_cut [] from 18 to 32 (fun wx => ∃ v2 u2, Bd B wx b v2 u2 (xs ++ [(pf, pt, pd)]) (ys) ∧ w0.grownBy wx (some b))
      case first =>
        go_wp2_with fail
        refine wp_region_held_drew (S := fun w' => w'.cell? ⟨g, off + k * 3, none⟩ = some (.int .i64 pf) ∧ w'.cell? ⟨g, off + k * 3 + 1, none⟩ = some (.int .i64 pt) ∧ w'.cell? ⟨g, off + k * 3 + 2, none⟩ = some (.string pd)) (by kernel_rfl) ?_ (fun hH => ?_)
        · exact hk0
        refine wpAnyH_take (i := 0) (oi := { dst := some 18, op := Go.Op.move (Go.Operand.tmp 0), type := 25, pos := "ref.go:19", after := #[], guard := none }) (v := ?_) rfl (by kernel_rfl) (by kernel_rfl) (by kernel_rfl) (fun _ _ _ h => h) (Or.inl ⟨by rfl, ?_⟩) (by assumption) ?_
        rotate_left
        · intro w hSw
          try dsimp only at hSw
          obtain ⟨x0, x1, x2⟩ := hSw
          go_simp
          all_goals with_reducible rfl
        try simp only [Act.put, List.setIfInBounds_toArray, List.set_cons_zero, List.set_cons_succ]
        refine wpAnyH_take (i := 2) (oi := { dst := some 20, op := Go.Op.move (Go.Operand.tmp 0), type := 25, pos := "ref.go:19", after := #[], guard := none }) (v := ?_) rfl (by kernel_rfl) (by kernel_rfl) (by kernel_rfl) (fun _ _ _ h => h) (Or.inl ⟨by rfl, ?_⟩) (by assumption) ?_
        rotate_left
        · intro w hSw
          try dsimp only at hSw
          obtain ⟨x0, x1, x2⟩ := hSw
          go_simp
          all_goals with_reducible rfl
        try simp only [Act.put, List.setIfInBounds_toArray, List.set_cons_zero, List.set_cons_succ]
        refine wpAnyH_take (i := 3) (oi := { dst := some 21, op := Go.Op.nilCheck (Go.Operand.tmp 20), type := 0, pos := "ref.go:19", after := #[{ on := 2, ground := Go.Ground.data }], guard := none }) (v := ?_) rfl (by kernel_rfl) (by kernel_rfl) (by kernel_rfl) (fun _ _ _ h => h) (Or.inl ⟨by rfl, ?_⟩) (by assumption) ?_
        rotate_left
        · intro w hSw
          try dsimp only at hSw
          obtain ⟨x0, x1, x2⟩ := hSw
          go_simp
          all_goals with_reducible rfl
        try simp only [Act.put, List.setIfInBounds_toArray, List.set_cons_zero, List.set_cons_succ]
        refine wpAnyH_take (i := 4) (oi := { dst := some 22, op := Go.Op.fieldAddr 29 (Go.Operand.tmp 21) 0, type := 0, pos := "ref.go:19", after := #[{ on := 3, ground := Go.Ground.data }], guard := none }) (v := ?_) rfl (by kernel_rfl) (by kernel_rfl) (by kernel_rfl) (fun _ _ _ h => h) (Or.inl ⟨by rfl, ?_⟩) (by assumption) ?_
        rotate_left
        · intro w hSw
          try dsimp only at hSw
          obtain ⟨x0, x1, x2⟩ := hSw
          go_simp
          all_goals with_reducible rfl
        try simp only [Act.put, List.setIfInBounds_toArray, List.set_cons_zero, List.set_cons_succ]
        refine wpAnyH_take (i := 7) (oi := { dst := some 25, op := Go.Op.move (Go.Operand.tmp 1), type := 26, pos := "ref.go:19", after := #[], guard := none }) (v := ?_) rfl (by kernel_rfl) (by kernel_rfl) (by kernel_rfl) (fun _ _ _ h => h) (Or.inl ⟨by rfl, ?_⟩) (by assumption) ?_
        rotate_left
        · intro w hSw
          try dsimp only at hSw
          obtain ⟨x0, x1, x2⟩ := hSw
          go_simp
          all_goals with_reducible rfl
        try simp only [Act.put, List.setIfInBounds_toArray, List.set_cons_zero, List.set_cons_succ]
        refine wpAnyH_take (i := 8) (oi := { dst := some 26, op := Go.Op.move (Go.Operand.tmp 5), type := 3, pos := "ref.go:19", after := #[], guard := none }) (v := ?_) rfl (by kernel_rfl) (by kernel_rfl) (by kernel_rfl) (fun _ _ _ h => h) (Or.inl ⟨by rfl, ?_⟩) (by assumption) ?_
        rotate_left
        · intro w hSw
          try dsimp only at hSw
          obtain ⟨x0, x1, x2⟩ := hSw
          go_simp
          all_goals with_reducible rfl
        try simp only [Act.put, List.setIfInBounds_toArray, List.set_cons_zero, List.set_cons_succ]
        refine wpAnyH_take (i := 9) (oi := { dst := some 27, op := Go.Op.indexAddr 26 (Go.Operand.tmp 25) (Go.Operand.tmp 26), type := 0, pos := "ref.go:19", after := #[{ on := 7, ground := Go.Ground.data }, { on := 8, ground := Go.Ground.data }], guard := none }) (v := ?_) rfl (by kernel_rfl) (by kernel_rfl) (by kernel_rfl) (fun _ _ _ h => h) (Or.inl ⟨by rfl, ?_⟩) (by assumption) ?_
        rotate_left
        · intro w hSw
          try dsimp only at hSw
          obtain ⟨x0, x1, x2⟩ := hSw
          go_simp
          all_goals with_reducible rfl
        try simp only [Act.put, List.setIfInBounds_toArray, List.set_cons_zero, List.set_cons_succ]
        refine wpAnyH_take (i := 10) (oi := { dst := some 28, op := Go.Op.load 39 (Go.Operand.tmp 27), type := 39, pos := "ref.go:19", after := #[{ on := 9, ground := Go.Ground.data }], guard := none }) (v := ?_) rfl (by kernel_rfl) (by kernel_rfl) (by kernel_rfl) (fun _ _ _ h => h) (Or.inl ⟨by rfl, ?_⟩) (by assumption) ?_
        rotate_left
        · intro w hSw
          try dsimp only at hSw
          obtain ⟨x0, x1, x2⟩ := hSw
          go_simp
          all_goals with_reducible rfl
        try simp only [Act.put, List.setIfInBounds_toArray, List.set_cons_zero, List.set_cons_succ]
        refine wpAnyH_ready (rs := [1, 5, 11]) (by kernel_rfl) (by simp) ?_
        refine AllReadyH.cons (o := { dst := some 19, op := Go.Op.buildSlice 26 0 #[], type := 26, pos := "ref.go:19", after := #[], guard := none }) rfl (fun K hK => ?_) ?_
        · go_simp
          have HW1 : Hid (Below w0.heap.size w0 (w0.drew.alloc (.cells #[] 39))) := Lib.hid (Below.step HW0.out (.cells #[] 39) (Below.refl _ _))
          have hk1 := HKS.out _ HW1.out
          have ck1 : (w0.alloc (.cells #[] 39)).cell? ⟨b, 0, none⟩ = some (Value.slice a n c) := (HQ.out.next HW1.out).c0
          have HROW : Hid (RowP w0.heap.size (w0.drew.alloc (.cells #[] 39)) (.slice (some ⟨w0.heap.size, 0, none⟩) 0 0) []) := Lib.hid (by
            have := (rowP_new w0.drew).lower (show w0.heap.size ≤ w0.drew.heap.size from HW0.out.size)
            rw [show w0.drew.heap.size = w0.heap.size by simp] at this
            exact this)
          refine hK.out _ _ ?_ (fun hH => ?_)
          · exact hk1
          clear hK K
          try simp only [Act.put, List.setIfInBounds_toArray, List.set_cons_zero, List.set_cons_succ]
          refine wpAnyH_ready (rs := [5, 11]) (by kernel_rfl) (by simp) ?_
          refine AllReadyH.cons (o := { dst := some 23, op := Go.Op.load 26 (Go.Operand.tmp 22), type := 26, pos := "ref.go:19", after := #[{ on := 4, ground := Go.Ground.data }], guard := none }) rfl (fun K hK => ?_) ?_
          · go_simp
            refine hK.out _ _ ?_ (fun hH => ?_)
            · exact hk1
            clear hK K
            try simp only [Act.put, List.setIfInBounds_toArray, List.set_cons_zero, List.set_cons_succ]
            refine wpAnyH_ready (rs := [6, 11]) (by kernel_rfl) (by simp) ?_
            refine AllReadyH.cons (o := { dst := some 24, op := Go.Op.call { callee := Go.Callee.builtin Go.Builtin.append, args := #[Go.Operand.tmp 19, Go.Operand.tmp 23], argTypes := #[26, 26] }, type := 26, pos := "ref.go:19", after := #[{ on := 1, ground := Go.Ground.data }, { on := 5, ground := Go.Ground.data }], guard := none }) rfl (fun K hK => ?_) ?_
            · obtain ⟨a1, c1', w6, hrun, hrw6, hgr6, _⟩ := run_appP (w0.drew.alloc (.cells #[] 39)) 26 w0.heap.size _ [] HROW.out a n c (xs) (psAt_below HX.out HW1.out) HC.out.1 HC.out.2 (by have := HNN.out; simp only [List.length_nil]; omega) HW1.out.size
              simp only [List.length_nil, Nat.zero_add, List.nil_append] at hrun hrw6
              have HW2 := Lib.hid (belP HROW.out HW1.out hgr6 HW1.out.size)
              have hk2 := HKS.out _ HW2.out
              have HROW1 := Lib.hid hrw6
              have ck2 : w6.cell? ⟨b, 0, none⟩ = some (Value.slice a n c) := (HQ.out.next HW2.out).c0
              clear hrw6 hgr6
              refine step_append_run (by rfl) (.tmp 19) (.tmp 23) 26 rfl _ _ _ rfl rfl hrun ?_
              refine hK.out _ _ ?_ (fun hH => ?_)
              · exact hk2
              clear hK K
              try simp only [Act.put, List.setIfInBounds_toArray, List.set_cons_zero, List.set_cons_succ]
              refine wpAnyH_ready (rs := [11]) (by kernel_rfl) (by simp) ?_
              refine AllReadyH.cons (o := { dst := some 29, op := Go.Op.buildSlice 26 1 #[(0, Go.Operand.tmp 28)], type := 26, pos := "ref.go:19", after := #[{ on := 10, ground := Go.Ground.data }], guard := none }) rfl (fun K hK => ?_) ?_
              · go_simp
                have HW3 : Hid (Below w0.heap.size w0 (w6.alloc (.cells #[.int .i64 pf, .int .i64 pt, .string pd] 39))) := Lib.hid (Below.step HW2.out (.cells #[.int .i64 pf, .int .i64 pt, .string pd] 39) (Below.refl _ _))
                have hk3 := HKS.out _ HW3.out
                have ck3 : (w6.alloc (.cells #[.int .i64 pf, .int .i64 pt, .string pd] 39)).cell? ⟨b, 0, none⟩ = some (Value.slice a n c) := (HQ.out.next HW3.out).c0
                have HONE : Hid (PsAt (w6.alloc (.cells #[.int .i64 pf, .int .i64 pt, .string pd] 39)) (some ⟨w6.heap.size, 0, none⟩) 1 [(pf, pt, pd)]) := Lib.hid (by
                  have := psAt_one w6 pf pt pd
                  exact this)
                have HROW1 := Lib.hid (HROW1.out.alloc (.cells #[.int .i64 pf, .int .i64 pt, .string pd] 39))
                refine hK.out _ _ ?_ (fun hH => ?_)
                · exact hk3
                clear hK K
                try simp only [Act.put, List.setIfInBounds_toArray, List.set_cons_zero, List.set_cons_succ]
                refine wpAnyH_ready (rs := [12]) (by kernel_rfl) (by simp) ?_
                refine AllReadyH.cons (o := { dst := some 30, op := Go.Op.call { callee := Go.Callee.builtin Go.Builtin.append, args := #[Go.Operand.tmp 24, Go.Operand.tmp 29], argTypes := #[26, 26] }, type := 26, pos := "ref.go:19", after := #[{ on := 6, ground := Go.Ground.data }, { on := 11, ground := Go.Ground.data }, { on := 6, ground := Go.Ground.chain }], guard := none }) rfl (fun K hK => ?_) ?_
                · obtain ⟨a2, c2, w8, hrun9, hrw8, hgr8, _⟩ := run_appP (w6.alloc (.cells #[.int .i64 pf, .int .i64 pt, .string pd] 39)) 26 w0.heap.size _ (xs) HROW1.out (some ⟨w6.heap.size, 0, none⟩) 1 1 [(pf, pt, pd)] HONE.out (Nat.le_refl _) (fun e => by cases e) (by rw [HSZ.out]; have := HNN.out; omega) HW3.out.size
                  rw [HSZ.out] at hrun9 hrw8
                  have HW8 := Lib.hid (belP HROW1.out HW3.out hgr8 HW3.out.size)
                  have hk8 := HKS.out _ HW8.out
                  have HROW2 := Lib.hid hrw8
                  have ck8 : w8.cell? ⟨b, 0, none⟩ = some (Value.slice a n c) := (HQ.out.next HW8.out).c0
                  have fk8 := (HQ.out.next HW8.out).f0 0
                  clear hrw8 hgr8
                  refine step_append_run (by rfl) (.tmp 24) (.tmp 29) 26 rfl _ _ _ rfl rfl hrun9 ?_
                  refine hK.out _ _ ?_ (fun hH => ?_)
                  · exact hk8
                  clear hK K
                  try simp only [Act.put, List.setIfInBounds_toArray, List.set_cons_zero, List.set_cons_succ]
                  refine wpAnyH_take (i := 13) (oi := { dst := some 31, op := Go.Op.nilCheck (Go.Operand.tmp 18), type := 0, pos := "ref.go:19", after := #[{ on := 0, ground := Go.Ground.data }, { on := 0, ground := Go.Ground.phase }, { on := 1, ground := Go.Ground.phase }, { on := 2, ground := Go.Ground.phase }, { on := 3, ground := Go.Ground.phase }, { on := 4, ground := Go.Ground.phase }, { on := 5, ground := Go.Ground.phase }, { on := 6, ground := Go.Ground.phase }, { on := 7, ground := Go.Ground.phase }, { on := 8, ground := Go.Ground.phase }, { on := 9, ground := Go.Ground.phase }, { on := 10, ground := Go.Ground.phase }, { on := 11, ground := Go.Ground.phase }, { on := 12, ground := Go.Ground.phase }], guard := none }) (v := ?_) rfl (by kernel_rfl) (by kernel_rfl) (by kernel_rfl) (fun _ _ _ h => h) (Or.inl ⟨by rfl, ?_⟩) (by assumption) ?_
                  rotate_left
                  · intro w hSw
                    try dsimp only at hSw
                    obtain ⟨x0, x1, x2⟩ := hSw
                    go_simp
                    all_goals with_reducible rfl
                  try simp only [Act.put, List.setIfInBounds_toArray, List.set_cons_zero, List.set_cons_succ]
                  refine wpAnyH_take (i := 14) (oi := { dst := some 32, op := Go.Op.fieldAddr 29 (Go.Operand.tmp 31) 0, type := 0, pos := "ref.go:19", after := #[{ on := 13, ground := Go.Ground.data }, { on := 0, ground := Go.Ground.phase }, { on := 1, ground := Go.Ground.phase }, { on := 2, ground := Go.Ground.phase }, { on := 3, ground := Go.Ground.phase }, { on := 4, ground := Go.Ground.phase }, { on := 5, ground := Go.Ground.phase }, { on := 6, ground := Go.Ground.phase }, { on := 7, ground := Go.Ground.phase }, { on := 8, ground := Go.Ground.phase }, { on := 9, ground := Go.Ground.phase }, { on := 10, ground := Go.Ground.phase }, { on := 11, ground := Go.Ground.phase }, { on := 12, ground := Go.Ground.phase }], guard := none }) (v := ?_) rfl (by kernel_rfl) (by kernel_rfl) (by kernel_rfl) (fun _ _ _ h => h) (Or.inl ⟨by rfl, ?_⟩) (by assumption) ?_
                  rotate_left
                  · intro w hSw
                    try dsimp only at hSw
                    obtain ⟨x0, x1, x2⟩ := hSw
                    go_simp
                    all_goals with_reducible rfl
                  try simp only [Act.put, List.setIfInBounds_toArray, List.set_cons_zero, List.set_cons_succ]
                  refine wpAnyH_ready (rs := [15]) (by kernel_rfl) (by simp) ?_
                  refine AllReadyH.cons (o := { dst := none, op := Go.Op.store 26 (Go.Operand.tmp 32) (Go.Operand.tmp 30), type := 0, pos := "ref.go:19", after := #[{ on := 14, ground := Go.Ground.data }, { on := 12, ground := Go.Ground.data }, { on := 12, ground := Go.Ground.chain }, { on := 0, ground := Go.Ground.phase }, { on := 1, ground := Go.Ground.phase }, { on := 2, ground := Go.Ground.phase }, { on := 3, ground := Go.Ground.phase }, { on := 4, ground := Go.Ground.phase }, { on := 5, ground := Go.Ground.phase }, { on := 6, ground := Go.Ground.phase }, { on := 7, ground := Go.Ground.phase }, { on := 8, ground := Go.Ground.phase }, { on := 9, ground := Go.Ground.phase }, { on := 10, ground := Go.Ground.phase }, { on := 11, ground := Go.Ground.phase }, { on := 12, ground := Go.Ground.phase }], guard := none }) rfl (fun K hK => ?_) ?_
                  · go_simp
                    refine hK.out _ _ ?_ (fun hH => ?_)
                    · exact (HKT.out _ _ HW8.out)
                    clear hK K
                    try simp only [Act.put, List.setIfInBounds_toArray, List.set_cons_zero, List.set_cons_succ]
                    refine wpAnyH_done (by kernel_rfl) ?_ _
                    have HFIN := Lib.hid (bd_put0 HQ.out HW8.out HROW2.out)
                    clear hrun hrun9
                    go_wp2_with fail
                    go_meet
                    case rel => exact ⟨_, _, HFIN.out.1, HFIN.out.2⟩
                  exact AllReadyH.nil
                exact AllReadyH.nil
              exact AllReadyH.nil
            refine AllReadyH.cons (o := { dst := some 29, op := Go.Op.buildSlice 26 1 #[(0, Go.Operand.tmp 28)], type := 26, pos := "ref.go:19", after := #[{ on := 10, ground := Go.Ground.data }], guard := none }) rfl (fun K hK => ?_) ?_
            · go_simp
              have HW2 : Hid (Below w0.heap.size w0 ((w0.drew.alloc (.cells #[] 39)).alloc (.cells #[.int .i64 pf, .int .i64 pt, .string pd] 39))) := Lib.hid (Below.step HW1.out (.cells #[.int .i64 pf, .int .i64 pt, .string pd] 39) (Below.refl _ _))
              have hk2 := HKS.out _ HW2.out
              have ck2 : ((w0.alloc (.cells #[] 39)).alloc (.cells #[.int .i64 pf, .int .i64 pt, .string pd] 39)).cell? ⟨b, 0, none⟩ = some (Value.slice a n c) := (HQ.out.next HW2.out).c0
              have HONE : Hid (PsAt ((w0.drew.alloc (.cells #[] 39)).alloc (.cells #[.int .i64 pf, .int .i64 pt, .string pd] 39)) (some ⟨w0.heap.size + 1, 0, none⟩) 1 [(pf, pt, pd)]) := Lib.hid (by
                have := psAt_one (w0.drew.alloc (.cells #[] 39)) pf pt pd
                rw [show (w0.drew.alloc (.cells #[] 39)).heap.size = w0.heap.size + 1 by simp] at this
                exact this)
              have HROW := Lib.hid (HROW.out.alloc (.cells #[.int .i64 pf, .int .i64 pt, .string pd] 39))
              refine hK.out _ _ ?_ (fun hH => ?_)
              · exact hk2
              clear hK K
              try simp only [Act.put, List.setIfInBounds_toArray, List.set_cons_zero, List.set_cons_succ]
              refine wpAnyH_ready (rs := [6]) (by kernel_rfl) (by simp) ?_
              refine AllReadyH.cons (o := { dst := some 24, op := Go.Op.call { callee := Go.Callee.builtin Go.Builtin.append, args := #[Go.Operand.tmp 19, Go.Operand.tmp 23], argTypes := #[26, 26] }, type := 26, pos := "ref.go:19", after := #[{ on := 1, ground := Go.Ground.data }, { on := 5, ground := Go.Ground.data }], guard := none }) rfl (fun K hK => ?_) ?_
              · obtain ⟨a1, c1', w6, hrun, hrw6, hgr6, _⟩ := run_appP ((w0.drew.alloc (.cells #[] 39)).alloc (.cells #[.int .i64 pf, .int .i64 pt, .string pd] 39)) 26 w0.heap.size _ [] HROW.out a n c (xs) (psAt_below HX.out HW2.out) HC.out.1 HC.out.2 (by have := HNN.out; simp only [List.length_nil]; omega) HW2.out.size
                simp only [List.length_nil, Nat.zero_add, List.nil_append] at hrun hrw6
                have HW3 := Lib.hid (belP HROW.out HW2.out hgr6 HW2.out.size)
                have hk3 := HKS.out _ HW3.out
                have HROW1 := Lib.hid hrw6
                have ck3 : w6.cell? ⟨b, 0, none⟩ = some (Value.slice a n c) := (HQ.out.next HW3.out).c0
                have HONE := Lib.hid (psAt_keep HONE.out (fun g off e => hgr6.block g (by cases e; first | (simp; done) | (simp; omega)) (by cases e; simp [Value.ownBlock])) hgr6.size)
                clear hrw6 hgr6
                refine step_append_run (by rfl) (.tmp 19) (.tmp 23) 26 rfl _ _ _ rfl rfl hrun ?_
                refine hK.out _ _ ?_ (fun hH => ?_)
                · exact hk3
                clear hK K
                try simp only [Act.put, List.setIfInBounds_toArray, List.set_cons_zero, List.set_cons_succ]
                refine wpAnyH_ready (rs := [12]) (by kernel_rfl) (by simp) ?_
                refine AllReadyH.cons (o := { dst := some 30, op := Go.Op.call { callee := Go.Callee.builtin Go.Builtin.append, args := #[Go.Operand.tmp 24, Go.Operand.tmp 29], argTypes := #[26, 26] }, type := 26, pos := "ref.go:19", after := #[{ on := 6, ground := Go.Ground.data }, { on := 11, ground := Go.Ground.data }, { on := 6, ground := Go.Ground.chain }], guard := none }) rfl (fun K hK => ?_) ?_
                · obtain ⟨a2, c2, w8, hrun9, hrw8, hgr8, _⟩ := run_appP w6 26 w0.heap.size _ (xs) HROW1.out (some ⟨w0.heap.size + 1, 0, none⟩) 1 1 [(pf, pt, pd)] HONE.out (Nat.le_refl _) (fun e => by cases e) (by rw [HSZ.out]; have := HNN.out; omega) HW3.out.size
                  rw [HSZ.out] at hrun9 hrw8
                  have HW8 := Lib.hid (belP HROW1.out HW3.out hgr8 HW3.out.size)
                  have hk8 := HKS.out _ HW8.out
                  have HROW2 := Lib.hid hrw8
                  have ck8 : w8.cell? ⟨b, 0, none⟩ = some (Value.slice a n c) := (HQ.out.next HW8.out).c0
                  have fk8 := (HQ.out.next HW8.out).f0 0
                  clear hrw8 hgr8
                  refine step_append_run (by rfl) (.tmp 24) (.tmp 29) 26 rfl _ _ _ rfl rfl hrun9 ?_
                  refine hK.out _ _ ?_ (fun hH => ?_)
                  · exact hk8
                  clear hK K
                  try simp only [Act.put, List.setIfInBounds_toArray, List.set_cons_zero, List.set_cons_succ]
                  refine wpAnyH_take (i := 13) (oi := { dst := some 31, op := Go.Op.nilCheck (Go.Operand.tmp 18), type := 0, pos := "ref.go:19", after := #[{ on := 0, ground := Go.Ground.data }, { on := 0, ground := Go.Ground.phase }, { on := 1, ground := Go.Ground.phase }, { on := 2, ground := Go.Ground.phase }, { on := 3, ground := Go.Ground.phase }, { on := 4, ground := Go.Ground.phase }, { on := 5, ground := Go.Ground.phase }, { on := 6, ground := Go.Ground.phase }, { on := 7, ground := Go.Ground.phase }, { on := 8, ground := Go.Ground.phase }, { on := 9, ground := Go.Ground.phase }, { on := 10, ground := Go.Ground.phase }, { on := 11, ground := Go.Ground.phase }, { on := 12, ground := Go.Ground.phase }], guard := none }) (v := ?_) rfl (by kernel_rfl) (by kernel_rfl) (by kernel_rfl) (fun _ _ _ h => h) (Or.inl ⟨by rfl, ?_⟩) (by assumption) ?_
                  rotate_left
                  · intro w hSw
                    try dsimp only at hSw
                    obtain ⟨x0, x1, x2⟩ := hSw
                    go_simp
                    all_goals with_reducible rfl
                  try simp only [Act.put, List.setIfInBounds_toArray, List.set_cons_zero, List.set_cons_succ]
                  refine wpAnyH_take (i := 14) (oi := { dst := some 32, op := Go.Op.fieldAddr 29 (Go.Operand.tmp 31) 0, type := 0, pos := "ref.go:19", after := #[{ on := 13, ground := Go.Ground.data }, { on := 0, ground := Go.Ground.phase }, { on := 1, ground := Go.Ground.phase }, { on := 2, ground := Go.Ground.phase }, { on := 3, ground := Go.Ground.phase }, { on := 4, ground := Go.Ground.phase }, { on := 5, ground := Go.Ground.phase }, { on := 6, ground := Go.Ground.phase }, { on := 7, ground := Go.Ground.phase }, { on := 8, ground := Go.Ground.phase }, { on := 9, ground := Go.Ground.phase }, { on := 10, ground := Go.Ground.phase }, { on := 11, ground := Go.Ground.phase }, { on := 12, ground := Go.Ground.phase }], guard := none }) (v := ?_) rfl (by kernel_rfl) (by kernel_rfl) (by kernel_rfl) (fun _ _ _ h => h) (Or.inl ⟨by rfl, ?_⟩) (by assumption) ?_
                  rotate_left
                  · intro w hSw
                    try dsimp only at hSw
                    obtain ⟨x0, x1, x2⟩ := hSw
                    go_simp
                    all_goals with_reducible rfl
                  try simp only [Act.put, List.setIfInBounds_toArray, List.set_cons_zero, List.set_cons_succ]
                  refine wpAnyH_ready (rs := [15]) (by kernel_rfl) (by simp) ?_
                  refine AllReadyH.cons (o := { dst := none, op := Go.Op.store 26 (Go.Operand.tmp 32) (Go.Operand.tmp 30), type := 0, pos := "ref.go:19", after := #[{ on := 14, ground := Go.Ground.data }, { on := 12, ground := Go.Ground.data }, { on := 12, ground := Go.Ground.chain }, { on := 0, ground := Go.Ground.phase }, { on := 1, ground := Go.Ground.phase }, { on := 2, ground := Go.Ground.phase }, { on := 3, ground := Go.Ground.phase }, { on := 4, ground := Go.Ground.phase }, { on := 5, ground := Go.Ground.phase }, { on := 6, ground := Go.Ground.phase }, { on := 7, ground := Go.Ground.phase }, { on := 8, ground := Go.Ground.phase }, { on := 9, ground := Go.Ground.phase }, { on := 10, ground := Go.Ground.phase }, { on := 11, ground := Go.Ground.phase }, { on := 12, ground := Go.Ground.phase }], guard := none }) rfl (fun K hK => ?_) ?_
                  · go_simp
                    refine hK.out _ _ ?_ (fun hH => ?_)
                    · exact (HKT.out _ _ HW8.out)
                    clear hK K
                    try simp only [Act.put, List.setIfInBounds_toArray, List.set_cons_zero, List.set_cons_succ]
                    refine wpAnyH_done (by kernel_rfl) ?_ _
                    have HFIN := Lib.hid (bd_put0 HQ.out HW8.out HROW2.out)
                    clear hrun hrun9
                    go_wp2_with fail
                    go_meet
                    case rel => exact ⟨_, _, HFIN.out.1, HFIN.out.2⟩
                  exact AllReadyH.nil
                exact AllReadyH.nil
              exact AllReadyH.nil
            exact AllReadyH.nil
          refine AllReadyH.cons (o := { dst := some 29, op := Go.Op.buildSlice 26 1 #[(0, Go.Operand.tmp 28)], type := 26, pos := "ref.go:19", after := #[{ on := 10, ground := Go.Ground.data }], guard := none }) rfl (fun K hK => ?_) ?_
          · go_simp
            have HW2 : Hid (Below w0.heap.size w0 ((w0.drew.alloc (.cells #[] 39)).alloc (.cells #[.int .i64 pf, .int .i64 pt, .string pd] 39))) := Lib.hid (Below.step HW1.out (.cells #[.int .i64 pf, .int .i64 pt, .string pd] 39) (Below.refl _ _))
            have hk2 := HKS.out _ HW2.out
            have ck2 : ((w0.alloc (.cells #[] 39)).alloc (.cells #[.int .i64 pf, .int .i64 pt, .string pd] 39)).cell? ⟨b, 0, none⟩ = some (Value.slice a n c) := (HQ.out.next HW2.out).c0
            have HONE : Hid (PsAt ((w0.drew.alloc (.cells #[] 39)).alloc (.cells #[.int .i64 pf, .int .i64 pt, .string pd] 39)) (some ⟨w0.heap.size + 1, 0, none⟩) 1 [(pf, pt, pd)]) := Lib.hid (by
              have := psAt_one (w0.drew.alloc (.cells #[] 39)) pf pt pd
              rw [show (w0.drew.alloc (.cells #[] 39)).heap.size = w0.heap.size + 1 by simp] at this
              exact this)
            have HROW := Lib.hid (HROW.out.alloc (.cells #[.int .i64 pf, .int .i64 pt, .string pd] 39))
            refine hK.out _ _ ?_ (fun hH => ?_)
            · exact hk2
            clear hK K
            try simp only [Act.put, List.setIfInBounds_toArray, List.set_cons_zero, List.set_cons_succ]
            refine wpAnyH_ready (rs := [5]) (by kernel_rfl) (by simp) ?_
            refine AllReadyH.cons (o := { dst := some 23, op := Go.Op.load 26 (Go.Operand.tmp 22), type := 26, pos := "ref.go:19", after := #[{ on := 4, ground := Go.Ground.data }], guard := none }) rfl (fun K hK => ?_) ?_
            · go_simp
              refine hK.out _ _ ?_ (fun hH => ?_)
              · exact hk2
              clear hK K
              try simp only [Act.put, List.setIfInBounds_toArray, List.set_cons_zero, List.set_cons_succ]
              refine wpAnyH_ready (rs := [6]) (by kernel_rfl) (by simp) ?_
              refine AllReadyH.cons (o := { dst := some 24, op := Go.Op.call { callee := Go.Callee.builtin Go.Builtin.append, args := #[Go.Operand.tmp 19, Go.Operand.tmp 23], argTypes := #[26, 26] }, type := 26, pos := "ref.go:19", after := #[{ on := 1, ground := Go.Ground.data }, { on := 5, ground := Go.Ground.data }], guard := none }) rfl (fun K hK => ?_) ?_
              · obtain ⟨a1, c1', w6, hrun, hrw6, hgr6, _⟩ := run_appP ((w0.drew.alloc (.cells #[] 39)).alloc (.cells #[.int .i64 pf, .int .i64 pt, .string pd] 39)) 26 w0.heap.size _ [] HROW.out a n c (xs) (psAt_below HX.out HW2.out) HC.out.1 HC.out.2 (by have := HNN.out; simp only [List.length_nil]; omega) HW2.out.size
                simp only [List.length_nil, Nat.zero_add, List.nil_append] at hrun hrw6
                have HW3 := Lib.hid (belP HROW.out HW2.out hgr6 HW2.out.size)
                have hk3 := HKS.out _ HW3.out
                have HROW1 := Lib.hid hrw6
                have ck3 : w6.cell? ⟨b, 0, none⟩ = some (Value.slice a n c) := (HQ.out.next HW3.out).c0
                have HONE := Lib.hid (psAt_keep HONE.out (fun g off e => hgr6.block g (by cases e; first | (simp; done) | (simp; omega)) (by cases e; simp [Value.ownBlock])) hgr6.size)
                clear hrw6 hgr6
                refine step_append_run (by rfl) (.tmp 19) (.tmp 23) 26 rfl _ _ _ rfl rfl hrun ?_
                refine hK.out _ _ ?_ (fun hH => ?_)
                · exact hk3
                clear hK K
                try simp only [Act.put, List.setIfInBounds_toArray, List.set_cons_zero, List.set_cons_succ]
                refine wpAnyH_ready (rs := [12]) (by kernel_rfl) (by simp) ?_
                refine AllReadyH.cons (o := { dst := some 30, op := Go.Op.call { callee := Go.Callee.builtin Go.Builtin.append, args := #[Go.Operand.tmp 24, Go.Operand.tmp 29], argTypes := #[26, 26] }, type := 26, pos := "ref.go:19", after := #[{ on := 6, ground := Go.Ground.data }, { on := 11, ground := Go.Ground.data }, { on := 6, ground := Go.Ground.chain }], guard := none }) rfl (fun K hK => ?_) ?_
                · obtain ⟨a2, c2, w8, hrun9, hrw8, hgr8, _⟩ := run_appP w6 26 w0.heap.size _ (xs) HROW1.out (some ⟨w0.heap.size + 1, 0, none⟩) 1 1 [(pf, pt, pd)] HONE.out (Nat.le_refl _) (fun e => by cases e) (by rw [HSZ.out]; have := HNN.out; omega) HW3.out.size
                  rw [HSZ.out] at hrun9 hrw8
                  have HW8 := Lib.hid (belP HROW1.out HW3.out hgr8 HW3.out.size)
                  have hk8 := HKS.out _ HW8.out
                  have HROW2 := Lib.hid hrw8
                  have ck8 : w8.cell? ⟨b, 0, none⟩ = some (Value.slice a n c) := (HQ.out.next HW8.out).c0
                  have fk8 := (HQ.out.next HW8.out).f0 0
                  clear hrw8 hgr8
                  refine step_append_run (by rfl) (.tmp 24) (.tmp 29) 26 rfl _ _ _ rfl rfl hrun9 ?_
                  refine hK.out _ _ ?_ (fun hH => ?_)
                  · exact hk8
                  clear hK K
                  try simp only [Act.put, List.setIfInBounds_toArray, List.set_cons_zero, List.set_cons_succ]
                  refine wpAnyH_take (i := 13) (oi := { dst := some 31, op := Go.Op.nilCheck (Go.Operand.tmp 18), type := 0, pos := "ref.go:19", after := #[{ on := 0, ground := Go.Ground.data }, { on := 0, ground := Go.Ground.phase }, { on := 1, ground := Go.Ground.phase }, { on := 2, ground := Go.Ground.phase }, { on := 3, ground := Go.Ground.phase }, { on := 4, ground := Go.Ground.phase }, { on := 5, ground := Go.Ground.phase }, { on := 6, ground := Go.Ground.phase }, { on := 7, ground := Go.Ground.phase }, { on := 8, ground := Go.Ground.phase }, { on := 9, ground := Go.Ground.phase }, { on := 10, ground := Go.Ground.phase }, { on := 11, ground := Go.Ground.phase }, { on := 12, ground := Go.Ground.phase }], guard := none }) (v := ?_) rfl (by kernel_rfl) (by kernel_rfl) (by kernel_rfl) (fun _ _ _ h => h) (Or.inl ⟨by rfl, ?_⟩) (by assumption) ?_
                  rotate_left
                  · intro w hSw
                    try dsimp only at hSw
                    obtain ⟨x0, x1, x2⟩ := hSw
                    go_simp
                    all_goals with_reducible rfl
                  try simp only [Act.put, List.setIfInBounds_toArray, List.set_cons_zero, List.set_cons_succ]
                  refine wpAnyH_take (i := 14) (oi := { dst := some 32, op := Go.Op.fieldAddr 29 (Go.Operand.tmp 31) 0, type := 0, pos := "ref.go:19", after := #[{ on := 13, ground := Go.Ground.data }, { on := 0, ground := Go.Ground.phase }, { on := 1, ground := Go.Ground.phase }, { on := 2, ground := Go.Ground.phase }, { on := 3, ground := Go.Ground.phase }, { on := 4, ground := Go.Ground.phase }, { on := 5, ground := Go.Ground.phase }, { on := 6, ground := Go.Ground.phase }, { on := 7, ground := Go.Ground.phase }, { on := 8, ground := Go.Ground.phase }, { on := 9, ground := Go.Ground.phase }, { on := 10, ground := Go.Ground.phase }, { on := 11, ground := Go.Ground.phase }, { on := 12, ground := Go.Ground.phase }], guard := none }) (v := ?_) rfl (by kernel_rfl) (by kernel_rfl) (by kernel_rfl) (fun _ _ _ h => h) (Or.inl ⟨by rfl, ?_⟩) (by assumption) ?_
                  rotate_left
                  · intro w hSw
                    try dsimp only at hSw
                    obtain ⟨x0, x1, x2⟩ := hSw
                    go_simp
                    all_goals with_reducible rfl
                  try simp only [Act.put, List.setIfInBounds_toArray, List.set_cons_zero, List.set_cons_succ]
                  refine wpAnyH_ready (rs := [15]) (by kernel_rfl) (by simp) ?_
                  refine AllReadyH.cons (o := { dst := none, op := Go.Op.store 26 (Go.Operand.tmp 32) (Go.Operand.tmp 30), type := 0, pos := "ref.go:19", after := #[{ on := 14, ground := Go.Ground.data }, { on := 12, ground := Go.Ground.data }, { on := 12, ground := Go.Ground.chain }, { on := 0, ground := Go.Ground.phase }, { on := 1, ground := Go.Ground.phase }, { on := 2, ground := Go.Ground.phase }, { on := 3, ground := Go.Ground.phase }, { on := 4, ground := Go.Ground.phase }, { on := 5, ground := Go.Ground.phase }, { on := 6, ground := Go.Ground.phase }, { on := 7, ground := Go.Ground.phase }, { on := 8, ground := Go.Ground.phase }, { on := 9, ground := Go.Ground.phase }, { on := 10, ground := Go.Ground.phase }, { on := 11, ground := Go.Ground.phase }, { on := 12, ground := Go.Ground.phase }], guard := none }) rfl (fun K hK => ?_) ?_
                  · go_simp
                    refine hK.out _ _ ?_ (fun hH => ?_)
                    · exact (HKT.out _ _ HW8.out)
                    clear hK K
                    try simp only [Act.put, List.setIfInBounds_toArray, List.set_cons_zero, List.set_cons_succ]
                    refine wpAnyH_done (by kernel_rfl) ?_ _
                    have HFIN := Lib.hid (bd_put0 HQ.out HW8.out HROW2.out)
                    clear hrun hrun9
                    go_wp2_with fail
                    go_meet
                    case rel => exact ⟨_, _, HFIN.out.1, HFIN.out.2⟩
                  exact AllReadyH.nil
                exact AllReadyH.nil
              exact AllReadyH.nil
            exact AllReadyH.nil
          exact AllReadyH.nil
        refine AllReadyH.cons (o := { dst := some 23, op := Go.Op.load 26 (Go.Operand.tmp 22), type := 26, pos := "ref.go:19", after := #[{ on := 4, ground := Go.Ground.data }], guard := none }) rfl (fun K hK => ?_) ?_
        · go_simp
          refine hK.out _ _ ?_ (fun hH => ?_)
          · exact hk0
          clear hK K
          try simp only [Act.put, List.setIfInBounds_toArray, List.set_cons_zero, List.set_cons_succ]
          refine wpAnyH_ready (rs := [1, 11]) (by kernel_rfl) (by simp) ?_
          refine AllReadyH.cons (o := { dst := some 19, op := Go.Op.buildSlice 26 0 #[], type := 26, pos := "ref.go:19", after := #[], guard := none }) rfl (fun K hK => ?_) ?_
          · go_simp
            have HW1 : Hid (Below w0.heap.size w0 (w0.drew.alloc (.cells #[] 39))) := Lib.hid (Below.step HW0.out (.cells #[] 39) (Below.refl _ _))
            have hk1 := HKS.out _ HW1.out
            have ck1 : (w0.alloc (.cells #[] 39)).cell? ⟨b, 0, none⟩ = some (Value.slice a n c) := (HQ.out.next HW1.out).c0
            have HROW : Hid (RowP w0.heap.size (w0.drew.alloc (.cells #[] 39)) (.slice (some ⟨w0.heap.size, 0, none⟩) 0 0) []) := Lib.hid (by
              have := (rowP_new w0.drew).lower (show w0.heap.size ≤ w0.drew.heap.size from HW0.out.size)
              rw [show w0.drew.heap.size = w0.heap.size by simp] at this
              exact this)
            refine hK.out _ _ ?_ (fun hH => ?_)
            · exact hk1
            clear hK K
            try simp only [Act.put, List.setIfInBounds_toArray, List.set_cons_zero, List.set_cons_succ]
            refine wpAnyH_ready (rs := [6, 11]) (by kernel_rfl) (by simp) ?_
            refine AllReadyH.cons (o := { dst := some 24, op := Go.Op.call { callee := Go.Callee.builtin Go.Builtin.append, args := #[Go.Operand.tmp 19, Go.Operand.tmp 23], argTypes := #[26, 26] }, type := 26, pos := "ref.go:19", after := #[{ on := 1, ground := Go.Ground.data }, { on := 5, ground := Go.Ground.data }], guard := none }) rfl (fun K hK => ?_) ?_
            · obtain ⟨a1, c1', w6, hrun, hrw6, hgr6, _⟩ := run_appP (w0.drew.alloc (.cells #[] 39)) 26 w0.heap.size _ [] HROW.out a n c (xs) (psAt_below HX.out HW1.out) HC.out.1 HC.out.2 (by have := HNN.out; simp only [List.length_nil]; omega) HW1.out.size
              simp only [List.length_nil, Nat.zero_add, List.nil_append] at hrun hrw6
              have HW2 := Lib.hid (belP HROW.out HW1.out hgr6 HW1.out.size)
              have hk2 := HKS.out _ HW2.out
              have HROW1 := Lib.hid hrw6
              have ck2 : w6.cell? ⟨b, 0, none⟩ = some (Value.slice a n c) := (HQ.out.next HW2.out).c0
              clear hrw6 hgr6
              refine step_append_run (by rfl) (.tmp 19) (.tmp 23) 26 rfl _ _ _ rfl rfl hrun ?_
              refine hK.out _ _ ?_ (fun hH => ?_)
              · exact hk2
              clear hK K
              try simp only [Act.put, List.setIfInBounds_toArray, List.set_cons_zero, List.set_cons_succ]
              refine wpAnyH_ready (rs := [11]) (by kernel_rfl) (by simp) ?_
              refine AllReadyH.cons (o := { dst := some 29, op := Go.Op.buildSlice 26 1 #[(0, Go.Operand.tmp 28)], type := 26, pos := "ref.go:19", after := #[{ on := 10, ground := Go.Ground.data }], guard := none }) rfl (fun K hK => ?_) ?_
              · go_simp
                have HW3 : Hid (Below w0.heap.size w0 (w6.alloc (.cells #[.int .i64 pf, .int .i64 pt, .string pd] 39))) := Lib.hid (Below.step HW2.out (.cells #[.int .i64 pf, .int .i64 pt, .string pd] 39) (Below.refl _ _))
                have hk3 := HKS.out _ HW3.out
                have ck3 : (w6.alloc (.cells #[.int .i64 pf, .int .i64 pt, .string pd] 39)).cell? ⟨b, 0, none⟩ = some (Value.slice a n c) := (HQ.out.next HW3.out).c0
                have HONE : Hid (PsAt (w6.alloc (.cells #[.int .i64 pf, .int .i64 pt, .string pd] 39)) (some ⟨w6.heap.size, 0, none⟩) 1 [(pf, pt, pd)]) := Lib.hid (by
                  have := psAt_one w6 pf pt pd
                  exact this)
                have HROW1 := Lib.hid (HROW1.out.alloc (.cells #[.int .i64 pf, .int .i64 pt, .string pd] 39))
                refine hK.out _ _ ?_ (fun hH => ?_)
                · exact hk3
                clear hK K
                try simp only [Act.put, List.setIfInBounds_toArray, List.set_cons_zero, List.set_cons_succ]
                refine wpAnyH_ready (rs := [12]) (by kernel_rfl) (by simp) ?_
                refine AllReadyH.cons (o := { dst := some 30, op := Go.Op.call { callee := Go.Callee.builtin Go.Builtin.append, args := #[Go.Operand.tmp 24, Go.Operand.tmp 29], argTypes := #[26, 26] }, type := 26, pos := "ref.go:19", after := #[{ on := 6, ground := Go.Ground.data }, { on := 11, ground := Go.Ground.data }, { on := 6, ground := Go.Ground.chain }], guard := none }) rfl (fun K hK => ?_) ?_
                · obtain ⟨a2, c2, w8, hrun9, hrw8, hgr8, _⟩ := run_appP (w6.alloc (.cells #[.int .i64 pf, .int .i64 pt, .string pd] 39)) 26 w0.heap.size _ (xs) HROW1.out (some ⟨w6.heap.size, 0, none⟩) 1 1 [(pf, pt, pd)] HONE.out (Nat.le_refl _) (fun e => by cases e) (by rw [HSZ.out]; have := HNN.out; omega) HW3.out.size
                  rw [HSZ.out] at hrun9 hrw8
                  have HW8 := Lib.hid (belP HROW1.out HW3.out hgr8 HW3.out.size)
                  have hk8 := HKS.out _ HW8.out
                  have HROW2 := Lib.hid hrw8
                  have ck8 : w8.cell? ⟨b, 0, none⟩ = some (Value.slice a n c) := (HQ.out.next HW8.out).c0
                  have fk8 := (HQ.out.next HW8.out).f0 0
                  clear hrw8 hgr8
                  refine step_append_run (by rfl) (.tmp 24) (.tmp 29) 26 rfl _ _ _ rfl rfl hrun9 ?_
                  refine hK.out _ _ ?_ (fun hH => ?_)
                  · exact hk8
                  clear hK K
                  try simp only [Act.put, List.setIfInBounds_toArray, List.set_cons_zero, List.set_cons_succ]
                  refine wpAnyH_take (i := 13) (oi := { dst := some 31, op := Go.Op.nilCheck (Go.Operand.tmp 18), type := 0, pos := "ref.go:19", after := #[{ on := 0, ground := Go.Ground.data }, { on := 0, ground := Go.Ground.phase }, { on := 1, ground := Go.Ground.phase }, { on := 2, ground := Go.Ground.phase }, { on := 3, ground := Go.Ground.phase }, { on := 4, ground := Go.Ground.phase }, { on := 5, ground := Go.Ground.phase }, { on := 6, ground := Go.Ground.phase }, { on := 7, ground := Go.Ground.phase }, { on := 8, ground := Go.Ground.phase }, { on := 9, ground := Go.Ground.phase }, { on := 10, ground := Go.Ground.phase }, { on := 11, ground := Go.Ground.phase }, { on := 12, ground := Go.Ground.phase }], guard := none }) (v := ?_) rfl (by kernel_rfl) (by kernel_rfl) (by kernel_rfl) (fun _ _ _ h => h) (Or.inl ⟨by rfl, ?_⟩) (by assumption) ?_
                  rotate_left
                  · intro w hSw
                    try dsimp only at hSw
                    obtain ⟨x0, x1, x2⟩ := hSw
                    go_simp
                    all_goals with_reducible rfl
                  try simp only [Act.put, List.setIfInBounds_toArray, List.set_cons_zero, List.set_cons_succ]
                  refine wpAnyH_take (i := 14) (oi := { dst := some 32, op := Go.Op.fieldAddr 29 (Go.Operand.tmp 31) 0, type := 0, pos := "ref.go:19", after := #[{ on := 13, ground := Go.Ground.data }, { on := 0, ground := Go.Ground.phase }, { on := 1, ground := Go.Ground.phase }, { on := 2, ground := Go.Ground.phase }, { on := 3, ground := Go.Ground.phase }, { on := 4, ground := Go.Ground.phase }, { on := 5, ground := Go.Ground.phase }, { on := 6, ground := Go.Ground.phase }, { on := 7, ground := Go.Ground.phase }, { on := 8, ground := Go.Ground.phase }, { on := 9, ground := Go.Ground.phase }, { on := 10, ground := Go.Ground.phase }, { on := 11, ground := Go.Ground.phase }, { on := 12, ground := Go.Ground.phase }], guard := none }) (v := ?_) rfl (by kernel_rfl) (by kernel_rfl) (by kernel_rfl) (fun _ _ _ h => h) (Or.inl ⟨by rfl, ?_⟩) (by assumption) ?_
                  rotate_left
                  · intro w hSw
                    try dsimp only at hSw
                    obtain ⟨x0, x1, x2⟩ := hSw
                    go_simp
                    all_goals with_reducible rfl
                  try simp only [Act.put, List.setIfInBounds_toArray, List.set_cons_zero, List.set_cons_succ]
                  refine wpAnyH_ready (rs := [15]) (by kernel_rfl) (by simp) ?_
                  refine AllReadyH.cons (o := { dst := none, op := Go.Op.store 26 (Go.Operand.tmp 32) (Go.Operand.tmp 30), type := 0, pos := "ref.go:19", after := #[{ on := 14, ground := Go.Ground.data }, { on := 12, ground := Go.Ground.data }, { on := 12, ground := Go.Ground.chain }, { on := 0, ground := Go.Ground.phase }, { on := 1, ground := Go.Ground.phase }, { on := 2, ground := Go.Ground.phase }, { on := 3, ground := Go.Ground.phase }, { on := 4, ground := Go.Ground.phase }, { on := 5, ground := Go.Ground.phase }, { on := 6, ground := Go.Ground.phase }, { on := 7, ground := Go.Ground.phase }, { on := 8, ground := Go.Ground.phase }, { on := 9, ground := Go.Ground.phase }, { on := 10, ground := Go.Ground.phase }, { on := 11, ground := Go.Ground.phase }, { on := 12, ground := Go.Ground.phase }], guard := none }) rfl (fun K hK => ?_) ?_
                  · go_simp
                    refine hK.out _ _ ?_ (fun hH => ?_)
                    · exact (HKT.out _ _ HW8.out)
                    clear hK K
                    try simp only [Act.put, List.setIfInBounds_toArray, List.set_cons_zero, List.set_cons_succ]
                    refine wpAnyH_done (by kernel_rfl) ?_ _
                    have HFIN := Lib.hid (bd_put0 HQ.out HW8.out HROW2.out)
                    clear hrun hrun9
                    go_wp2_with fail
                    go_meet
                    case rel => exact ⟨_, _, HFIN.out.1, HFIN.out.2⟩
                  exact AllReadyH.nil
                exact AllReadyH.nil
              exact AllReadyH.nil
            refine AllReadyH.cons (o := { dst := some 29, op := Go.Op.buildSlice 26 1 #[(0, Go.Operand.tmp 28)], type := 26, pos := "ref.go:19", after := #[{ on := 10, ground := Go.Ground.data }], guard := none }) rfl (fun K hK => ?_) ?_
            · go_simp
              have HW2 : Hid (Below w0.heap.size w0 ((w0.drew.alloc (.cells #[] 39)).alloc (.cells #[.int .i64 pf, .int .i64 pt, .string pd] 39))) := Lib.hid (Below.step HW1.out (.cells #[.int .i64 pf, .int .i64 pt, .string pd] 39) (Below.refl _ _))
              have hk2 := HKS.out _ HW2.out
              have ck2 : ((w0.alloc (.cells #[] 39)).alloc (.cells #[.int .i64 pf, .int .i64 pt, .string pd] 39)).cell? ⟨b, 0, none⟩ = some (Value.slice a n c) := (HQ.out.next HW2.out).c0
              have HONE : Hid (PsAt ((w0.drew.alloc (.cells #[] 39)).alloc (.cells #[.int .i64 pf, .int .i64 pt, .string pd] 39)) (some ⟨w0.heap.size + 1, 0, none⟩) 1 [(pf, pt, pd)]) := Lib.hid (by
                have := psAt_one (w0.drew.alloc (.cells #[] 39)) pf pt pd
                rw [show (w0.drew.alloc (.cells #[] 39)).heap.size = w0.heap.size + 1 by simp] at this
                exact this)
              have HROW := Lib.hid (HROW.out.alloc (.cells #[.int .i64 pf, .int .i64 pt, .string pd] 39))
              refine hK.out _ _ ?_ (fun hH => ?_)
              · exact hk2
              clear hK K
              try simp only [Act.put, List.setIfInBounds_toArray, List.set_cons_zero, List.set_cons_succ]
              refine wpAnyH_ready (rs := [6]) (by kernel_rfl) (by simp) ?_
              refine AllReadyH.cons (o := { dst := some 24, op := Go.Op.call { callee := Go.Callee.builtin Go.Builtin.append, args := #[Go.Operand.tmp 19, Go.Operand.tmp 23], argTypes := #[26, 26] }, type := 26, pos := "ref.go:19", after := #[{ on := 1, ground := Go.Ground.data }, { on := 5, ground := Go.Ground.data }], guard := none }) rfl (fun K hK => ?_) ?_
              · obtain ⟨a1, c1', w6, hrun, hrw6, hgr6, _⟩ := run_appP ((w0.drew.alloc (.cells #[] 39)).alloc (.cells #[.int .i64 pf, .int .i64 pt, .string pd] 39)) 26 w0.heap.size _ [] HROW.out a n c (xs) (psAt_below HX.out HW2.out) HC.out.1 HC.out.2 (by have := HNN.out; simp only [List.length_nil]; omega) HW2.out.size
                simp only [List.length_nil, Nat.zero_add, List.nil_append] at hrun hrw6
                have HW3 := Lib.hid (belP HROW.out HW2.out hgr6 HW2.out.size)
                have hk3 := HKS.out _ HW3.out
                have HROW1 := Lib.hid hrw6
                have ck3 : w6.cell? ⟨b, 0, none⟩ = some (Value.slice a n c) := (HQ.out.next HW3.out).c0
                have HONE := Lib.hid (psAt_keep HONE.out (fun g off e => hgr6.block g (by cases e; first | (simp; done) | (simp; omega)) (by cases e; simp [Value.ownBlock])) hgr6.size)
                clear hrw6 hgr6
                refine step_append_run (by rfl) (.tmp 19) (.tmp 23) 26 rfl _ _ _ rfl rfl hrun ?_
                refine hK.out _ _ ?_ (fun hH => ?_)
                · exact hk3
                clear hK K
                try simp only [Act.put, List.setIfInBounds_toArray, List.set_cons_zero, List.set_cons_succ]
                refine wpAnyH_ready (rs := [12]) (by kernel_rfl) (by simp) ?_
                refine AllReadyH.cons (o := { dst := some 30, op := Go.Op.call { callee := Go.Callee.builtin Go.Builtin.append, args := #[Go.Operand.tmp 24, Go.Operand.tmp 29], argTypes := #[26, 26] }, type := 26, pos := "ref.go:19", after := #[{ on := 6, ground := Go.Ground.data }, { on := 11, ground := Go.Ground.data }, { on := 6, ground := Go.Ground.chain }], guard := none }) rfl (fun K hK => ?_) ?_
                · obtain ⟨a2, c2, w8, hrun9, hrw8, hgr8, _⟩ := run_appP w6 26 w0.heap.size _ (xs) HROW1.out (some ⟨w0.heap.size + 1, 0, none⟩) 1 1 [(pf, pt, pd)] HONE.out (Nat.le_refl _) (fun e => by cases e) (by rw [HSZ.out]; have := HNN.out; omega) HW3.out.size
                  rw [HSZ.out] at hrun9 hrw8
                  have HW8 := Lib.hid (belP HROW1.out HW3.out hgr8 HW3.out.size)
                  have hk8 := HKS.out _ HW8.out
                  have HROW2 := Lib.hid hrw8
                  have ck8 : w8.cell? ⟨b, 0, none⟩ = some (Value.slice a n c) := (HQ.out.next HW8.out).c0
                  have fk8 := (HQ.out.next HW8.out).f0 0
                  clear hrw8 hgr8
                  refine step_append_run (by rfl) (.tmp 24) (.tmp 29) 26 rfl _ _ _ rfl rfl hrun9 ?_
                  refine hK.out _ _ ?_ (fun hH => ?_)
                  · exact hk8
                  clear hK K
                  try simp only [Act.put, List.setIfInBounds_toArray, List.set_cons_zero, List.set_cons_succ]
                  refine wpAnyH_take (i := 13) (oi := { dst := some 31, op := Go.Op.nilCheck (Go.Operand.tmp 18), type := 0, pos := "ref.go:19", after := #[{ on := 0, ground := Go.Ground.data }, { on := 0, ground := Go.Ground.phase }, { on := 1, ground := Go.Ground.phase }, { on := 2, ground := Go.Ground.phase }, { on := 3, ground := Go.Ground.phase }, { on := 4, ground := Go.Ground.phase }, { on := 5, ground := Go.Ground.phase }, { on := 6, ground := Go.Ground.phase }, { on := 7, ground := Go.Ground.phase }, { on := 8, ground := Go.Ground.phase }, { on := 9, ground := Go.Ground.phase }, { on := 10, ground := Go.Ground.phase }, { on := 11, ground := Go.Ground.phase }, { on := 12, ground := Go.Ground.phase }], guard := none }) (v := ?_) rfl (by kernel_rfl) (by kernel_rfl) (by kernel_rfl) (fun _ _ _ h => h) (Or.inl ⟨by rfl, ?_⟩) (by assumption) ?_
                  rotate_left
                  · intro w hSw
                    try dsimp only at hSw
                    obtain ⟨x0, x1, x2⟩ := hSw
                    go_simp
                    all_goals with_reducible rfl
                  try simp only [Act.put, List.setIfInBounds_toArray, List.set_cons_zero, List.set_cons_succ]
                  refine wpAnyH_take (i := 14) (oi := { dst := some 32, op := Go.Op.fieldAddr 29 (Go.Operand.tmp 31) 0, type := 0, pos := "ref.go:19", after := #[{ on := 13, ground := Go.Ground.data }, { on := 0, ground := Go.Ground.phase }, { on := 1, ground := Go.Ground.phase }, { on := 2, ground := Go.Ground.phase }, { on := 3, ground := Go.Ground.phase }, { on := 4, ground := Go.Ground.phase }, { on := 5, ground := Go.Ground.phase }, { on := 6, ground := Go.Ground.phase }, { on := 7, ground := Go.Ground.phase }, { on := 8, ground := Go.Ground.phase }, { on := 9, ground := Go.Ground.phase }, { on := 10, ground := Go.Ground.phase }, { on := 11, ground := Go.Ground.phase }, { on := 12, ground := Go.Ground.phase }], guard := none }) (v := ?_) rfl (by kernel_rfl) (by kernel_rfl) (by kernel_rfl) (fun _ _ _ h => h) (Or.inl ⟨by rfl, ?_⟩) (by assumption) ?_
                  rotate_left
                  · intro w hSw
                    try dsimp only at hSw
                    obtain ⟨x0, x1, x2⟩ := hSw
                    go_simp
                    all_goals with_reducible rfl
                  try simp only [Act.put, List.setIfInBounds_toArray, List.set_cons_zero, List.set_cons_succ]
                  refine wpAnyH_ready (rs := [15]) (by kernel_rfl) (by simp) ?_
                  refine AllReadyH.cons (o := { dst := none, op := Go.Op.store 26 (Go.Operand.tmp 32) (Go.Operand.tmp 30), type := 0, pos := "ref.go:19", after := #[{ on := 14, ground := Go.Ground.data }, { on := 12, ground := Go.Ground.data }, { on := 12, ground := Go.Ground.chain }, { on := 0, ground := Go.Ground.phase }, { on := 1, ground := Go.Ground.phase }, { on := 2, ground := Go.Ground.phase }, { on := 3, ground := Go.Ground.phase }, { on := 4, ground := Go.Ground.phase }, { on := 5, ground := Go.Ground.phase }, { on := 6, ground := Go.Ground.phase }, { on := 7, ground := Go.Ground.phase }, { on := 8, ground := Go.Ground.phase }, { on := 9, ground := Go.Ground.phase }, { on := 10, ground := Go.Ground.phase }, { on := 11, ground := Go.Ground.phase }, { on := 12, ground := Go.Ground.phase }], guard := none }) rfl (fun K hK => ?_) ?_
                  · go_simp
                    refine hK.out _ _ ?_ (fun hH => ?_)
                    · exact (HKT.out _ _ HW8.out)
                    clear hK K
                    try simp only [Act.put, List.setIfInBounds_toArray, List.set_cons_zero, List.set_cons_succ]
                    refine wpAnyH_done (by kernel_rfl) ?_ _
                    have HFIN := Lib.hid (bd_put0 HQ.out HW8.out HROW2.out)
                    clear hrun hrun9
                    go_wp2_with fail
                    go_meet
                    case rel => exact ⟨_, _, HFIN.out.1, HFIN.out.2⟩
                  exact AllReadyH.nil
                exact AllReadyH.nil
              exact AllReadyH.nil
            exact AllReadyH.nil
          refine AllReadyH.cons (o := { dst := some 29, op := Go.Op.buildSlice 26 1 #[(0, Go.Operand.tmp 28)], type := 26, pos := "ref.go:19", after := #[{ on := 10, ground := Go.Ground.data }], guard := none }) rfl (fun K hK => ?_) ?_
          · go_simp
            have HW1 : Hid (Below w0.heap.size w0 (w0.drew.alloc (.cells #[.int .i64 pf, .int .i64 pt, .string pd] 39))) := Lib.hid (Below.step HW0.out (.cells #[.int .i64 pf, .int .i64 pt, .string pd] 39) (Below.refl _ _))
            have hk1 := HKS.out _ HW1.out
            have ck1 : (w0.alloc (.cells #[.int .i64 pf, .int .i64 pt, .string pd] 39)).cell? ⟨b, 0, none⟩ = some (Value.slice a n c) := (HQ.out.next HW1.out).c0
            have HONE : Hid (PsAt (w0.drew.alloc (.cells #[.int .i64 pf, .int .i64 pt, .string pd] 39)) (some ⟨w0.heap.size, 0, none⟩) 1 [(pf, pt, pd)]) := Lib.hid (by
              have := psAt_one w0.drew pf pt pd
              rw [show w0.drew.heap.size = w0.heap.size by simp] at this
              exact this)
            refine hK.out _ _ ?_ (fun hH => ?_)
            · exact hk1
            clear hK K
            try simp only [Act.put, List.setIfInBounds_toArray, List.set_cons_zero, List.set_cons_succ]
            refine wpAnyH_ready (rs := [1]) (by kernel_rfl) (by simp) ?_
            refine AllReadyH.cons (o := { dst := some 19, op := Go.Op.buildSlice 26 0 #[], type := 26, pos := "ref.go:19", after := #[], guard := none }) rfl (fun K hK => ?_) ?_
            · go_simp
              have HW2 : Hid (Below w0.heap.size w0 ((w0.drew.alloc (.cells #[.int .i64 pf, .int .i64 pt, .string pd] 39)).alloc (.cells #[] 39))) := Lib.hid (Below.step HW1.out (.cells #[] 39) (Below.refl _ _))
              have hk2 := HKS.out _ HW2.out
              have ck2 : ((w0.alloc (.cells #[.int .i64 pf, .int .i64 pt, .string pd] 39)).alloc (.cells #[] 39)).cell? ⟨b, 0, none⟩ = some (Value.slice a n c) := (HQ.out.next HW2.out).c0
              have HROW : Hid (RowP w0.heap.size ((w0.drew.alloc (.cells #[.int .i64 pf, .int .i64 pt, .string pd] 39)).alloc (.cells #[] 39)) (.slice (some ⟨w0.heap.size + 1, 0, none⟩) 0 0) []) := Lib.hid (by
                have := (rowP_new (w0.drew.alloc (.cells #[.int .i64 pf, .int .i64 pt, .string pd] 39))).lower (show w0.heap.size ≤ (w0.drew.alloc (.cells #[.int .i64 pf, .int .i64 pt, .string pd] 39)).heap.size from HW1.out.size)
                rw [show (w0.drew.alloc (.cells #[.int .i64 pf, .int .i64 pt, .string pd] 39)).heap.size = w0.heap.size + 1 by simp] at this
                exact this)
              have HONE := Lib.hid (psAt_below (w' := ((w0.drew.alloc (.cells #[.int .i64 pf, .int .i64 pt, .string pd] 39)).alloc (.cells #[] 39))) HONE.out (Joins.below_alloc1 _ _))
              refine hK.out _ _ ?_ (fun hH => ?_)
              · exact hk2
              clear hK K
              try simp only [Act.put, List.setIfInBounds_toArray, List.set_cons_zero, List.set_cons_succ]
              refine wpAnyH_ready (rs := [6]) (by kernel_rfl) (by simp) ?_
              refine AllReadyH.cons (o := { dst := some 24, op := Go.Op.call { callee := Go.Callee.builtin Go.Builtin.append, args := #[Go.Operand.tmp 19, Go.Operand.tmp 23], argTypes := #[26, 26] }, type := 26, pos := "ref.go:19", after := #[{ on := 1, ground := Go.Ground.data }, { on := 5, ground := Go.Ground.data }], guard := none }) rfl (fun K hK => ?_) ?_
              · obtain ⟨a1, c1', w6, hrun, hrw6, hgr6, _⟩ := run_appP ((w0.drew.alloc (.cells #[.int .i64 pf, .int .i64 pt, .string pd] 39)).alloc (.cells #[] 39)) 26 w0.heap.size _ [] HROW.out a n c (xs) (psAt_below HX.out HW2.out) HC.out.1 HC.out.2 (by have := HNN.out; simp only [List.length_nil]; omega) HW2.out.size
                simp only [List.length_nil, Nat.zero_add, List.nil_append] at hrun hrw6
                have HW3 := Lib.hid (belP HROW.out HW2.out hgr6 HW2.out.size)
                have hk3 := HKS.out _ HW3.out
                have HROW1 := Lib.hid hrw6
                have ck3 : w6.cell? ⟨b, 0, none⟩ = some (Value.slice a n c) := (HQ.out.next HW3.out).c0
                have HONE := Lib.hid (psAt_keep HONE.out (fun g off e => hgr6.block g (by cases e; first | (simp; done) | (simp; omega)) (by cases e; simp [Value.ownBlock])) hgr6.size)
                clear hrw6 hgr6
                refine step_append_run (by rfl) (.tmp 19) (.tmp 23) 26 rfl _ _ _ rfl rfl hrun ?_
                refine hK.out _ _ ?_ (fun hH => ?_)
                · exact hk3
                clear hK K
                try simp only [Act.put, List.setIfInBounds_toArray, List.set_cons_zero, List.set_cons_succ]
                refine wpAnyH_ready (rs := [12]) (by kernel_rfl) (by simp) ?_
                refine AllReadyH.cons (o := { dst := some 30, op := Go.Op.call { callee := Go.Callee.builtin Go.Builtin.append, args := #[Go.Operand.tmp 24, Go.Operand.tmp 29], argTypes := #[26, 26] }, type := 26, pos := "ref.go:19", after := #[{ on := 6, ground := Go.Ground.data }, { on := 11, ground := Go.Ground.data }, { on := 6, ground := Go.Ground.chain }], guard := none }) rfl (fun K hK => ?_) ?_
                · obtain ⟨a2, c2, w8, hrun9, hrw8, hgr8, _⟩ := run_appP w6 26 w0.heap.size _ (xs) HROW1.out (some ⟨w0.heap.size, 0, none⟩) 1 1 [(pf, pt, pd)] HONE.out (Nat.le_refl _) (fun e => by cases e) (by rw [HSZ.out]; have := HNN.out; omega) HW3.out.size
                  rw [HSZ.out] at hrun9 hrw8
                  have HW8 := Lib.hid (belP HROW1.out HW3.out hgr8 HW3.out.size)
                  have hk8 := HKS.out _ HW8.out
                  have HROW2 := Lib.hid hrw8
                  have ck8 : w8.cell? ⟨b, 0, none⟩ = some (Value.slice a n c) := (HQ.out.next HW8.out).c0
                  have fk8 := (HQ.out.next HW8.out).f0 0
                  clear hrw8 hgr8
                  refine step_append_run (by rfl) (.tmp 24) (.tmp 29) 26 rfl _ _ _ rfl rfl hrun9 ?_
                  refine hK.out _ _ ?_ (fun hH => ?_)
                  · exact hk8
                  clear hK K
                  try simp only [Act.put, List.setIfInBounds_toArray, List.set_cons_zero, List.set_cons_succ]
                  refine wpAnyH_take (i := 13) (oi := { dst := some 31, op := Go.Op.nilCheck (Go.Operand.tmp 18), type := 0, pos := "ref.go:19", after := #[{ on := 0, ground := Go.Ground.data }, { on := 0, ground := Go.Ground.phase }, { on := 1, ground := Go.Ground.phase }, { on := 2, ground := Go.Ground.phase }, { on := 3, ground := Go.Ground.phase }, { on := 4, ground := Go.Ground.phase }, { on := 5, ground := Go.Ground.phase }, { on := 6, ground := Go.Ground.phase }, { on := 7, ground := Go.Ground.phase }, { on := 8, ground := Go.Ground.phase }, { on := 9, ground := Go.Ground.phase }, { on := 10, ground := Go.Ground.phase }, { on := 11, ground := Go.Ground.phase }, { on := 12, ground := Go.Ground.phase }], guard := none }) (v := ?_) rfl (by kernel_rfl) (by kernel_rfl) (by kernel_rfl) (fun _ _ _ h => h) (Or.inl ⟨by rfl, ?_⟩) (by assumption) ?_
                  rotate_left
                  · intro w hSw
                    try dsimp only at hSw
                    obtain ⟨x0, x1, x2⟩ := hSw
                    go_simp
                    all_goals with_reducible rfl
                  try simp only [Act.put, List.setIfInBounds_toArray, List.set_cons_zero, List.set_cons_succ]
                  refine wpAnyH_take (i := 14) (oi := { dst := some 32, op := Go.Op.fieldAddr 29 (Go.Operand.tmp 31) 0, type := 0, pos := "ref.go:19", after := #[{ on := 13, ground := Go.Ground.data }, { on := 0, ground := Go.Ground.phase }, { on := 1, ground := Go.Ground.phase }, { on := 2, ground := Go.Ground.phase }, { on := 3, ground := Go.Ground.phase }, { on := 4, ground := Go.Ground.phase }, { on := 5, ground := Go.Ground.phase }, { on := 6, ground := Go.Ground.phase }, { on := 7, ground := Go.Ground.phase }, { on := 8, ground := Go.Ground.phase }, { on := 9, ground := Go.Ground.phase }, { on := 10, ground := Go.Ground.phase }, { on := 11, ground := Go.Ground.phase }, { on := 12, ground := Go.Ground.phase }], guard := none }) (v := ?_) rfl (by kernel_rfl) (by kernel_rfl) (by kernel_rfl) (fun _ _ _ h => h) (Or.inl ⟨by rfl, ?_⟩) (by assumption) ?_
                  rotate_left
                  · intro w hSw
                    try dsimp only at hSw
                    obtain ⟨x0, x1, x2⟩ := hSw
                    go_simp
                    all_goals with_reducible rfl
                  try simp only [Act.put, List.setIfInBounds_toArray, List.set_cons_zero, List.set_cons_succ]
                  refine wpAnyH_ready (rs := [15]) (by kernel_rfl) (by simp) ?_
                  refine AllReadyH.cons (o := { dst := none, op := Go.Op.store 26 (Go.Operand.tmp 32) (Go.Operand.tmp 30), type := 0, pos := "ref.go:19", after := #[{ on := 14, ground := Go.Ground.data }, { on := 12, ground := Go.Ground.data }, { on := 12, ground := Go.Ground.chain }, { on := 0, ground := Go.Ground.phase }, { on := 1, ground := Go.Ground.phase }, { on := 2, ground := Go.Ground.phase }, { on := 3, ground := Go.Ground.phase }, { on := 4, ground := Go.Ground.phase }, { on := 5, ground := Go.Ground.phase }, { on := 6, ground := Go.Ground.phase }, { on := 7, ground := Go.Ground.phase }, { on := 8, ground := Go.Ground.phase }, { on := 9, ground := Go.Ground.phase }, { on := 10, ground := Go.Ground.phase }, { on := 11, ground := Go.Ground.phase }, { on := 12, ground := Go.Ground.phase }], guard := none }) rfl (fun K hK => ?_) ?_
                  · go_simp
                    refine hK.out _ _ ?_ (fun hH => ?_)
                    · exact (HKT.out _ _ HW8.out)
                    clear hK K
                    try simp only [Act.put, List.setIfInBounds_toArray, List.set_cons_zero, List.set_cons_succ]
                    refine wpAnyH_done (by kernel_rfl) ?_ _
                    have HFIN := Lib.hid (bd_put0 HQ.out HW8.out HROW2.out)
                    clear hrun hrun9
                    go_wp2_with fail
                    go_meet
                    case rel => exact ⟨_, _, HFIN.out.1, HFIN.out.2⟩
                  exact AllReadyH.nil
                exact AllReadyH.nil
              exact AllReadyH.nil
            exact AllReadyH.nil
          exact AllReadyH.nil
        refine AllReadyH.cons (o := { dst := some 29, op := Go.Op.buildSlice 26 1 #[(0, Go.Operand.tmp 28)], type := 26, pos := "ref.go:19", after := #[{ on := 10, ground := Go.Ground.data }], guard := none }) rfl (fun K hK => ?_) ?_
        · go_simp
          have HW1 : Hid (Below w0.heap.size w0 (w0.drew.alloc (.cells #[.int .i64 pf, .int .i64 pt, .string pd] 39))) := Lib.hid (Below.step HW0.out (.cells #[.int .i64 pf, .int .i64 pt, .string pd] 39) (Below.refl _ _))
          have hk1 := HKS.out _ HW1.out
          have ck1 : (w0.alloc (.cells #[.int .i64 pf, .int .i64 pt, .string pd] 39)).cell? ⟨b, 0, none⟩ = some (Value.slice a n c) := (HQ.out.next HW1.out).c0
          have HONE : Hid (PsAt (w0.drew.alloc (.cells #[.int .i64 pf, .int .i64 pt, .string pd] 39)) (some ⟨w0.heap.size, 0, none⟩) 1 [(pf, pt, pd)]) := Lib.hid (by
            have := psAt_one w0.drew pf pt pd
            rw [show w0.drew.heap.size = w0.heap.size by simp] at this
            exact this)
          refine hK.out _ _ ?_ (fun hH => ?_)
          · exact hk1
          clear hK K
          try simp only [Act.put, List.setIfInBounds_toArray, List.set_cons_zero, List.set_cons_succ]
          refine wpAnyH_ready (rs := [1, 5]) (by kernel_rfl) (by simp) ?_
          refine AllReadyH.cons (o := { dst := some 19, op := Go.Op.buildSlice 26 0 #[], type := 26, pos := "ref.go:19", after := #[], guard := none }) rfl (fun K hK => ?_) ?_
          · go_simp
            have HW2 : Hid (Below w0.heap.size w0 ((w0.drew.alloc (.cells #[.int .i64 pf, .int .i64 pt, .string pd] 39)).alloc (.cells #[] 39))) := Lib.hid (Below.step HW1.out (.cells #[] 39) (Below.refl _ _))
            have hk2 := HKS.out _ HW2.out
            have ck2 : ((w0.alloc (.cells #[.int .i64 pf, .int .i64 pt, .string pd] 39)).alloc (.cells #[] 39)).cell? ⟨b, 0, none⟩ = some (Value.slice a n c) := (HQ.out.next HW2.out).c0
            have HROW : Hid (RowP w0.heap.size ((w0.drew.alloc (.cells #[.int .i64 pf, .int .i64 pt, .string pd] 39)).alloc (.cells #[] 39)) (.slice (some ⟨w0.heap.size + 1, 0, none⟩) 0 0) []) := Lib.hid (by
              have := (rowP_new (w0.drew.alloc (.cells #[.int .i64 pf, .int .i64 pt, .string pd] 39))).lower (show w0.heap.size ≤ (w0.drew.alloc (.cells #[.int .i64 pf, .int .i64 pt, .string pd] 39)).heap.size from HW1.out.size)
              rw [show (w0.drew.alloc (.cells #[.int .i64 pf, .int .i64 pt, .string pd] 39)).heap.size = w0.heap.size + 1 by simp] at this
              exact this)
            have HONE := Lib.hid (psAt_below (w' := ((w0.drew.alloc (.cells #[.int .i64 pf, .int .i64 pt, .string pd] 39)).alloc (.cells #[] 39))) HONE.out (Joins.below_alloc1 _ _))
            refine hK.out _ _ ?_ (fun hH => ?_)
            · exact hk2
            clear hK K
            try simp only [Act.put, List.setIfInBounds_toArray, List.set_cons_zero, List.set_cons_succ]
            refine wpAnyH_ready (rs := [5]) (by kernel_rfl) (by simp) ?_
            refine AllReadyH.cons (o := { dst := some 23, op := Go.Op.load 26 (Go.Operand.tmp 22), type := 26, pos := "ref.go:19", after := #[{ on := 4, ground := Go.Ground.data }], guard := none }) rfl (fun K hK => ?_) ?_
            · go_simp
              refine hK.out _ _ ?_ (fun hH => ?_)
              · exact hk2
              clear hK K
              try simp only [Act.put, List.setIfInBounds_toArray, List.set_cons_zero, List.set_cons_succ]
              refine wpAnyH_ready (rs := [6]) (by kernel_rfl) (by simp) ?_
              refine AllReadyH.cons (o := { dst := some 24, op := Go.Op.call { callee := Go.Callee.builtin Go.Builtin.append, args := #[Go.Operand.tmp 19, Go.Operand.tmp 23], argTypes := #[26, 26] }, type := 26, pos := "ref.go:19", after := #[{ on := 1, ground := Go.Ground.data }, { on := 5, ground := Go.Ground.data }], guard := none }) rfl (fun K hK => ?_) ?_
              · obtain ⟨a1, c1', w6, hrun, hrw6, hgr6, _⟩ := run_appP ((w0.drew.alloc (.cells #[.int .i64 pf, .int .i64 pt, .string pd] 39)).alloc (.cells #[] 39)) 26 w0.heap.size _ [] HROW.out a n c (xs) (psAt_below HX.out HW2.out) HC.out.1 HC.out.2 (by have := HNN.out; simp only [List.length_nil]; omega) HW2.out.size
                simp only [List.length_nil, Nat.zero_add, List.nil_append] at hrun hrw6
                have HW3 := Lib.hid (belP HROW.out HW2.out hgr6 HW2.out.size)
                have hk3 := HKS.out _ HW3.out
                have HROW1 := Lib.hid hrw6
                have ck3 : w6.cell? ⟨b, 0, none⟩ = some (Value.slice a n c) := (HQ.out.next HW3.out).c0
                have HONE := Lib.hid (psAt_keep HONE.out (fun g off e => hgr6.block g (by cases e; first | (simp; done) | (simp; omega)) (by cases e; simp [Value.ownBlock])) hgr6.size)
                clear hrw6 hgr6
                refine step_append_run (by rfl) (.tmp 19) (.tmp 23) 26 rfl _ _ _ rfl rfl hrun ?_
                refine hK.out _ _ ?_ (fun hH => ?_)
                · exact hk3
                clear hK K
                try simp only [Act.put, List.setIfInBounds_toArray, List.set_cons_zero, List.set_cons_succ]
                refine wpAnyH_ready (rs := [12]) (by kernel_rfl) (by simp) ?_
                refine AllReadyH.cons (o := { dst := some 30, op := Go.Op.call { callee := Go.Callee.builtin Go.Builtin.append, args := #[Go.Operand.tmp 24, Go.Operand.tmp 29], argTypes := #[26, 26] }, type := 26, pos := "ref.go:19", after := #[{ on := 6, ground := Go.Ground.data }, { on := 11, ground := Go.Ground.data }, { on := 6, ground := Go.Ground.chain }], guard := none }) rfl (fun K hK => ?_) ?_
                · obtain ⟨a2, c2, w8, hrun9, hrw8, hgr8, _⟩ := run_appP w6 26 w0.heap.size _ (xs) HROW1.out (some ⟨w0.heap.size, 0, none⟩) 1 1 [(pf, pt, pd)] HONE.out (Nat.le_refl _) (fun e => by cases e) (by rw [HSZ.out]; have := HNN.out; omega) HW3.out.size
                  rw [HSZ.out] at hrun9 hrw8
                  have HW8 := Lib.hid (belP HROW1.out HW3.out hgr8 HW3.out.size)
                  have hk8 := HKS.out _ HW8.out
                  have HROW2 := Lib.hid hrw8
                  have ck8 : w8.cell? ⟨b, 0, none⟩ = some (Value.slice a n c) := (HQ.out.next HW8.out).c0
                  have fk8 := (HQ.out.next HW8.out).f0 0
                  clear hrw8 hgr8
                  refine step_append_run (by rfl) (.tmp 24) (.tmp 29) 26 rfl _ _ _ rfl rfl hrun9 ?_
                  refine hK.out _ _ ?_ (fun hH => ?_)
                  · exact hk8
                  clear hK K
                  try simp only [Act.put, List.setIfInBounds_toArray, List.set_cons_zero, List.set_cons_succ]
                  refine wpAnyH_take (i := 13) (oi := { dst := some 31, op := Go.Op.nilCheck (Go.Operand.tmp 18), type := 0, pos := "ref.go:19", after := #[{ on := 0, ground := Go.Ground.data }, { on := 0, ground := Go.Ground.phase }, { on := 1, ground := Go.Ground.phase }, { on := 2, ground := Go.Ground.phase }, { on := 3, ground := Go.Ground.phase }, { on := 4, ground := Go.Ground.phase }, { on := 5, ground := Go.Ground.phase }, { on := 6, ground := Go.Ground.phase }, { on := 7, ground := Go.Ground.phase }, { on := 8, ground := Go.Ground.phase }, { on := 9, ground := Go.Ground.phase }, { on := 10, ground := Go.Ground.phase }, { on := 11, ground := Go.Ground.phase }, { on := 12, ground := Go.Ground.phase }], guard := none }) (v := ?_) rfl (by kernel_rfl) (by kernel_rfl) (by kernel_rfl) (fun _ _ _ h => h) (Or.inl ⟨by rfl, ?_⟩) (by assumption) ?_
                  rotate_left
                  · intro w hSw
                    try dsimp only at hSw
                    obtain ⟨x0, x1, x2⟩ := hSw
                    go_simp
                    all_goals with_reducible rfl
                  try simp only [Act.put, List.setIfInBounds_toArray, List.set_cons_zero, List.set_cons_succ]
                  refine wpAnyH_take (i := 14) (oi := { dst := some 32, op := Go.Op.fieldAddr 29 (Go.Operand.tmp 31) 0, type := 0, pos := "ref.go:19", after := #[{ on := 13, ground := Go.Ground.data }, { on := 0, ground := Go.Ground.phase }, { on := 1, ground := Go.Ground.phase }, { on := 2, ground := Go.Ground.phase }, { on := 3, ground := Go.Ground.phase }, { on := 4, ground := Go.Ground.phase }, { on := 5, ground := Go.Ground.phase }, { on := 6, ground := Go.Ground.phase }, { on := 7, ground := Go.Ground.phase }, { on := 8, ground := Go.Ground.phase }, { on := 9, ground := Go.Ground.phase }, { on := 10, ground := Go.Ground.phase }, { on := 11, ground := Go.Ground.phase }, { on := 12, ground := Go.Ground.phase }], guard := none }) (v := ?_) rfl (by kernel_rfl) (by kernel_rfl) (by kernel_rfl) (fun _ _ _ h => h) (Or.inl ⟨by rfl, ?_⟩) (by assumption) ?_
                  rotate_left
                  · intro w hSw
                    try dsimp only at hSw
                    obtain ⟨x0, x1, x2⟩ := hSw
                    go_simp
                    all_goals with_reducible rfl
                  try simp only [Act.put, List.setIfInBounds_toArray, List.set_cons_zero, List.set_cons_succ]
                  refine wpAnyH_ready (rs := [15]) (by kernel_rfl) (by simp) ?_
                  refine AllReadyH.cons (o := { dst := none, op := Go.Op.store 26 (Go.Operand.tmp 32) (Go.Operand.tmp 30), type := 0, pos := "ref.go:19", after := #[{ on := 14, ground := Go.Ground.data }, { on := 12, ground := Go.Ground.data }, { on := 12, ground := Go.Ground.chain }, { on := 0, ground := Go.Ground.phase }, { on := 1, ground := Go.Ground.phase }, { on := 2, ground := Go.Ground.phase }, { on := 3, ground := Go.Ground.phase }, { on := 4, ground := Go.Ground.phase }, { on := 5, ground := Go.Ground.phase }, { on := 6, ground := Go.Ground.phase }, { on := 7, ground := Go.Ground.phase }, { on := 8, ground := Go.Ground.phase }, { on := 9, ground := Go.Ground.phase }, { on := 10, ground := Go.Ground.phase }, { on := 11, ground := Go.Ground.phase }, { on := 12, ground := Go.Ground.phase }], guard := none }) rfl (fun K hK => ?_) ?_
                  · go_simp
                    refine hK.out _ _ ?_ (fun hH => ?_)
                    · exact (HKT.out _ _ HW8.out)
                    clear hK K
                    try simp only [Act.put, List.setIfInBounds_toArray, List.set_cons_zero, List.set_cons_succ]
                    refine wpAnyH_done (by kernel_rfl) ?_ _
                    have HFIN := Lib.hid (bd_put0 HQ.out HW8.out HROW2.out)
                    clear hrun hrun9
                    go_wp2_with fail
                    go_meet
                    case rel => exact ⟨_, _, HFIN.out.1, HFIN.out.2⟩
                  exact AllReadyH.nil
                exact AllReadyH.nil
              exact AllReadyH.nil
            exact AllReadyH.nil
          refine AllReadyH.cons (o := { dst := some 23, op := Go.Op.load 26 (Go.Operand.tmp 22), type := 26, pos := "ref.go:19", after := #[{ on := 4, ground := Go.Ground.data }], guard := none }) rfl (fun K hK => ?_) ?_
          · go_simp
            refine hK.out _ _ ?_ (fun hH => ?_)
            · exact hk1
            clear hK K
            try simp only [Act.put, List.setIfInBounds_toArray, List.set_cons_zero, List.set_cons_succ]
            refine wpAnyH_ready (rs := [1]) (by kernel_rfl) (by simp) ?_
            refine AllReadyH.cons (o := { dst := some 19, op := Go.Op.buildSlice 26 0 #[], type := 26, pos := "ref.go:19", after := #[], guard := none }) rfl (fun K hK => ?_) ?_
            · go_simp
              have HW2 : Hid (Below w0.heap.size w0 ((w0.drew.alloc (.cells #[.int .i64 pf, .int .i64 pt, .string pd] 39)).alloc (.cells #[] 39))) := Lib.hid (Below.step HW1.out (.cells #[] 39) (Below.refl _ _))
              have hk2 := HKS.out _ HW2.out
              have ck2 : ((w0.alloc (.cells #[.int .i64 pf, .int .i64 pt, .string pd] 39)).alloc (.cells #[] 39)).cell? ⟨b, 0, none⟩ = some (Value.slice a n c) := (HQ.out.next HW2.out).c0
              have HROW : Hid (RowP w0.heap.size ((w0.drew.alloc (.cells #[.int .i64 pf, .int .i64 pt, .string pd] 39)).alloc (.cells #[] 39)) (.slice (some ⟨w0.heap.size + 1, 0, none⟩) 0 0) []) := Lib.hid (by
                have := (rowP_new (w0.drew.alloc (.cells #[.int .i64 pf, .int .i64 pt, .string pd] 39))).lower (show w0.heap.size ≤ (w0.drew.alloc (.cells #[.int .i64 pf, .int .i64 pt, .string pd] 39)).heap.size from HW1.out.size)
                rw [show (w0.drew.alloc (.cells #[.int .i64 pf, .int .i64 pt, .string pd] 39)).heap.size = w0.heap.size + 1 by simp] at this
                exact this)
              have HONE := Lib.hid (psAt_below (w' := ((w0.drew.alloc (.cells #[.int .i64 pf, .int .i64 pt, .string pd] 39)).alloc (.cells #[] 39))) HONE.out (Joins.below_alloc1 _ _))
              refine hK.out _ _ ?_ (fun hH => ?_)
              · exact hk2
              clear hK K
              try simp only [Act.put, List.setIfInBounds_toArray, List.set_cons_zero, List.set_cons_succ]
              refine wpAnyH_ready (rs := [6]) (by kernel_rfl) (by simp) ?_
              refine AllReadyH.cons (o := { dst := some 24, op := Go.Op.call { callee := Go.Callee.builtin Go.Builtin.append, args := #[Go.Operand.tmp 19, Go.Operand.tmp 23], argTypes := #[26, 26] }, type := 26, pos := "ref.go:19", after := #[{ on := 1, ground := Go.Ground.data }, { on := 5, ground := Go.Ground.data }], guard := none }) rfl (fun K hK => ?_) ?_
              · obtain ⟨a1, c1', w6, hrun, hrw6, hgr6, _⟩ := run_appP ((w0.drew.alloc (.cells #[.int .i64 pf, .int .i64 pt, .string pd] 39)).alloc (.cells #[] 39)) 26 w0.heap.size _ [] HROW.out a n c (xs) (psAt_below HX.out HW2.out) HC.out.1 HC.out.2 (by have := HNN.out; simp only [List.length_nil]; omega) HW2.out.size
                simp only [List.length_nil, Nat.zero_add, List.nil_append] at hrun hrw6
                have HW3 := Lib.hid (belP HROW.out HW2.out hgr6 HW2.out.size)
                have hk3 := HKS.out _ HW3.out
                have HROW1 := Lib.hid hrw6
                have ck3 : w6.cell? ⟨b, 0, none⟩ = some (Value.slice a n c) := (HQ.out.next HW3.out).c0
                have HONE := Lib.hid (psAt_keep HONE.out (fun g off e => hgr6.block g (by cases e; first | (simp; done) | (simp; omega)) (by cases e; simp [Value.ownBlock])) hgr6.size)
                clear hrw6 hgr6
                refine step_append_run (by rfl) (.tmp 19) (.tmp 23) 26 rfl _ _ _ rfl rfl hrun ?_
                refine hK.out _ _ ?_ (fun hH => ?_)
                · exact hk3
                clear hK K
                try simp only [Act.put, List.setIfInBounds_toArray, List.set_cons_zero, List.set_cons_succ]
                refine wpAnyH_ready (rs := [12]) (by kernel_rfl) (by simp) ?_
                refine AllReadyH.cons (o := { dst := some 30, op := Go.Op.call { callee := Go.Callee.builtin Go.Builtin.append, args := #[Go.Operand.tmp 24, Go.Operand.tmp 29], argTypes := #[26, 26] }, type := 26, pos := "ref.go:19", after := #[{ on := 6, ground := Go.Ground.data }, { on := 11, ground := Go.Ground.data }, { on := 6, ground := Go.Ground.chain }], guard := none }) rfl (fun K hK => ?_) ?_
                · obtain ⟨a2, c2, w8, hrun9, hrw8, hgr8, _⟩ := run_appP w6 26 w0.heap.size _ (xs) HROW1.out (some ⟨w0.heap.size, 0, none⟩) 1 1 [(pf, pt, pd)] HONE.out (Nat.le_refl _) (fun e => by cases e) (by rw [HSZ.out]; have := HNN.out; omega) HW3.out.size
                  rw [HSZ.out] at hrun9 hrw8
                  have HW8 := Lib.hid (belP HROW1.out HW3.out hgr8 HW3.out.size)
                  have hk8 := HKS.out _ HW8.out
                  have HROW2 := Lib.hid hrw8
                  have ck8 : w8.cell? ⟨b, 0, none⟩ = some (Value.slice a n c) := (HQ.out.next HW8.out).c0
                  have fk8 := (HQ.out.next HW8.out).f0 0
                  clear hrw8 hgr8
                  refine step_append_run (by rfl) (.tmp 24) (.tmp 29) 26 rfl _ _ _ rfl rfl hrun9 ?_
                  refine hK.out _ _ ?_ (fun hH => ?_)
                  · exact hk8
                  clear hK K
                  try simp only [Act.put, List.setIfInBounds_toArray, List.set_cons_zero, List.set_cons_succ]
                  refine wpAnyH_take (i := 13) (oi := { dst := some 31, op := Go.Op.nilCheck (Go.Operand.tmp 18), type := 0, pos := "ref.go:19", after := #[{ on := 0, ground := Go.Ground.data }, { on := 0, ground := Go.Ground.phase }, { on := 1, ground := Go.Ground.phase }, { on := 2, ground := Go.Ground.phase }, { on := 3, ground := Go.Ground.phase }, { on := 4, ground := Go.Ground.phase }, { on := 5, ground := Go.Ground.phase }, { on := 6, ground := Go.Ground.phase }, { on := 7, ground := Go.Ground.phase }, { on := 8, ground := Go.Ground.phase }, { on := 9, ground := Go.Ground.phase }, { on := 10, ground := Go.Ground.phase }, { on := 11, ground := Go.Ground.phase }, { on := 12, ground := Go.Ground.phase }], guard := none }) (v := ?_) rfl (by kernel_rfl) (by kernel_rfl) (by kernel_rfl) (fun _ _ _ h => h) (Or.inl ⟨by rfl, ?_⟩) (by assumption) ?_
                  rotate_left
                  · intro w hSw
                    try dsimp only at hSw
                    obtain ⟨x0, x1, x2⟩ := hSw
                    go_simp
                    all_goals with_reducible rfl
                  try simp only [Act.put, List.setIfInBounds_toArray, List.set_cons_zero, List.set_cons_succ]
                  refine wpAnyH_take (i := 14) (oi := { dst := some 32, op := Go.Op.fieldAddr 29 (Go.Operand.tmp 31) 0, type := 0, pos := "ref.go:19", after := #[{ on := 13, ground := Go.Ground.data }, { on := 0, ground := Go.Ground.phase }, { on := 1, ground := Go.Ground.phase }, { on := 2, ground := Go.Ground.phase }, { on := 3, ground := Go.Ground.phase }, { on := 4, ground := Go.Ground.phase }, { on := 5, ground := Go.Ground.phase }, { on := 6, ground := Go.Ground.phase }, { on := 7, ground := Go.Ground.phase }, { on := 8, ground := Go.Ground.phase }, { on := 9, ground := Go.Ground.phase }, { on := 10, ground := Go.Ground.phase }, { on := 11, ground := Go.Ground.phase }, { on := 12, ground := Go.Ground.phase }], guard := none }) (v := ?_) rfl (by kernel_rfl) (by kernel_rfl) (by kernel_rfl) (fun _ _ _ h => h) (Or.inl ⟨by rfl, ?_⟩) (by assumption) ?_
                  rotate_left
                  · intro w hSw
                    try dsimp only at hSw
                    obtain ⟨x0, x1, x2⟩ := hSw
                    go_simp
                    all_goals with_reducible rfl
                  try simp only [Act.put, List.setIfInBounds_toArray, List.set_cons_zero, List.set_cons_succ]
                  refine wpAnyH_ready (rs := [15]) (by kernel_rfl) (by simp) ?_
                  refine AllReadyH.cons (o := { dst := none, op := Go.Op.store 26 (Go.Operand.tmp 32) (Go.Operand.tmp 30), type := 0, pos := "ref.go:19", after := #[{ on := 14, ground := Go.Ground.data }, { on := 12, ground := Go.Ground.data }, { on := 12, ground := Go.Ground.chain }, { on := 0, ground := Go.Ground.phase }, { on := 1, ground := Go.Ground.phase }, { on := 2, ground := Go.Ground.phase }, { on := 3, ground := Go.Ground.phase }, { on := 4, ground := Go.Ground.phase }, { on := 5, ground := Go.Ground.phase }, { on := 6, ground := Go.Ground.phase }, { on := 7, ground := Go.Ground.phase }, { on := 8, ground := Go.Ground.phase }, { on := 9, ground := Go.Ground.phase }, { on := 10, ground := Go.Ground.phase }, { on := 11, ground := Go.Ground.phase }, { on := 12, ground := Go.Ground.phase }], guard := none }) rfl (fun K hK => ?_) ?_
                  · go_simp
                    refine hK.out _ _ ?_ (fun hH => ?_)
                    · exact (HKT.out _ _ HW8.out)
                    clear hK K
                    try simp only [Act.put, List.setIfInBounds_toArray, List.set_cons_zero, List.set_cons_succ]
                    refine wpAnyH_done (by kernel_rfl) ?_ _
                    have HFIN := Lib.hid (bd_put0 HQ.out HW8.out HROW2.out)
                    clear hrun hrun9
                    go_wp2_with fail
                    go_meet
                    case rel => exact ⟨_, _, HFIN.out.1, HFIN.out.2⟩
                  exact AllReadyH.nil
                exact AllReadyH.nil
              exact AllReadyH.nil
            exact AllReadyH.nil
          exact AllReadyH.nil
        exact AllReadyH.nil
      case rest =>
        obtain ⟨v2, u2, hq, hg⟩ := hcut
        clear hk0 ck0 x0 x1 x2 HKS HKT HX HC HW0 HQ HSZ
        obtain ⟨a', c', rfl, _⟩ := hq.mks.is
        obtain ⟨n', hn'⟩ : ∃ n', ys.length = n' := ⟨_, rfl⟩
        rw [hn'] at hq
        have HGR2 := Lib.hid (World.grownBy.trans HGR.out hg)
        have HSZ := Lib.hid hn'
        have HNN : Hid (n' ≤ 10000) := Lib.hid (by have := HMS.out; rw [← hys] at hn'; simp at hn'; omega)
        have HX := Lib.hid (hq.mks.isB hn'.symm).1
        have HC := Lib.hid (hq.mks.isB hn'.symm).2
        have HQ := Lib.hid hq
        have ck0 := HQ.out.c1
        have ck1 : (wc.alloc (.cells #[] 4)).cell? ⟨b, 1, none⟩ = some (Value.slice a' n' c') := (HQ.out.next (Joins.below_alloc1 _ _)).c1
        have HFX : Hid (ps ++ qs.take (k + 1) = xs ++ [(pf, pt, pd)]) := Lib.hid (by rw [HTM.out, ← hxs, List.append_assoc])
        have HFY : Hid (ms ++ List.replicate (k + 1) false = ys ++ [false]) := Lib.hid (by rw [List.replicate_succ', ← hys, List.append_assoc])
        clear hq hg hn' HGR hxs hys HBD
        go_wp2_with (at_builtin; refine wpList_appB0 rfl (.tmp 34) (.tmp 38) rfl rfl a' n' c' rfl ys HX.out HC.out.1 HC.out.2 (by have := HNN.out; omega) ?_)
        intro a1 c1' w4 hr4 hb4
        have HR4 := Lib.hid hr4
        have HB4 := Lib.hid hb4
        clear hr4 hb4 ck0 ck1
        go_wp2_with (at_builtin; refine wpList_appB rfl (.tmp 39) (.tmp 40) rfl wc.heap.size _ ys rfl (HR4.out.alloc (.cells #[.bool false] 4)) (some ⟨w4.heap.size, 0, none⟩) 1 1 rfl [false] (bsAt_one w4 false) (Nat.le_refl _) (fun e => by cases e) (by rw [HSZ.out]; have := HNN.out; omega) (HB4.out.alloc HB4.out.size _).size ?_)
        intro a2 c2 w8 hr8 hg8 _
        rw [HSZ.out] at hr8
        have HW8 : Hid (Below wc.heap.size wc w8) := Lib.hid (belB (HR4.out.alloc (.cells #[.bool false] 4)) (HB4.out.alloc HB4.out.size _) hg8 (HB4.out.alloc HB4.out.size _).size)
        have HFIN := Lib.hid (bd_put1 HQ.out HW8.out (hr8.lower (Nat.le_refl _)))
        have HG9 := Lib.hid (World.grownBy.trans HGR2.out HFIN.out.2)
        rw [HSZ.out]
        have ck8 := (HQ.out.next HW8.out).c1
        have fk8 := (HQ.out.next HW8.out).f0 1
        clear hr8 hg8
        go_wp2
        go_roundw
        case rel => exact ⟨k + 1, by omega, by go_num, ⟨_, _, by rw [HFX.out, HFY.out]; exact HFIN.out.1⟩, HG9.out⟩
        case measure => simp [intOf]; omega
    · obtain rfl : k = N := by omega
      by_cases h1 : k < pl
      · have q1 : (k : Int) < (pl : Int) := by omega
        have q2 : ps.length + k = 4096 := by rcases HNX.out with hx | hx <;> omega
        rw [q2] at ck
        clear q2
        go_wp2
        go_ret
        exact ⟨rfl, ⟨_, _, HBD.out⟩, HGR.out⟩
      · have q1 : ¬ (k : Int) < (pl : Int) := by omega
        go_wp2
        go_ret
        exact ⟨rfl, ⟨_, _, HBD.out⟩, HGR.out⟩
end
end Go.Proofs.Ytjnjpphbclepbaa
