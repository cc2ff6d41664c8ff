/- The program's Add; what its calls leave. -/
import Derived.Test.YtjnjpphbclepbaaH3
import Derived.Deep.CutRange
namespace Go.Proofs.Ytjnjpphbclepbaa
open Go Go.RowKit
set_option maxRecDepth 20000
/-- What a call on the program's bag leaves: blocks of other types. -/
structure BkW (B : Nat) (w w' : World) : Prop where
  os : w'.os = w.os
  tape : w'.tape = w.tape
  output : w'.output = w.output
  size : w.heap.size ≤ w'.heap.size
  low : ∀ i, i < B → i < w.heap.size → w'.heap[i]? = w.heap[i]?
  oth : ∀ (X : Nat) (o : Obj), w.heap[X]? = some o → (∀ cur fr, o ≠ Obj.cells cur 53 fr) → (∀ cur fr, o ≠ Obj.cells cur 60 fr) → w'.heap[X]? = some o
theorem BkW.ofBelow {B : Nat} {w w' : World} (h : Below w.heap.size w w') : BkW B w w' := ⟨h.os, h.tape, h.output, h.size, fun i _ hi => h.block i hi, fun X _ hX _ _ => (h.block X (Array.getElem?_eq_some_iff.1 hX).1).trans hX⟩
theorem BkW.refl (B : Nat) (w : World) : BkW B w w := BkW.ofBelow (Below.refl _ _)
theorem BkW.trans {B : Nat} {w1 w2 w3 : World} (h : BkW B w1 w2) (k : BkW B w2 w3) : BkW B w1 w3 :=
  ⟨k.os.trans h.os, k.tape.trans h.tape, k.output.trans h.output, Nat.le_trans h.size k.size, fun i hi hl => (k.low i hi (Nat.lt_of_lt_of_le hl h.size)).trans (h.low i hi hl), fun X o hX h1 h2 => k.oth X o (h.oth X o hX h1 h2) h1 h2⟩
theorem BkW.below {B : Nat} {w w' : World} (h : BkW B w w') (hB : B ≤ w.heap.size) : Below B w w' := ⟨h.os, h.tape, h.output, h.size, fun i hi => h.low i hi (by omega)⟩
theorem BkW.cells {B : Nat} {w w' : World} (h : BkW B w w') {X : Nat} {cur : Array Value} {t : TypeId} {fr : Nat × Nat} (hX : w.heap[X]? = some (.cells cur t fr)) (h1 : t ≠ 53) (h2 : t ≠ 60) : w'.heap[X]? = some (.cells cur t fr) :=
  h.oth X _ hX (fun _ _ e => by cases e; exact h1 rfl) (fun _ _ e => by cases e; exact h2 rfl)
theorem BkW.of {B b : Nat} {v : Value} {l : List Pk} {w w' : World} (h : Bk B w b v l) (hf : Fr w w' b v.ownBlock) : BkW B w w' :=
  ⟨hf.os, hf.tape, hf.output, hf.size, fun i hi hl => hf.block i hl (fun e => by have := h.lo; omega) (fun e => by have := (h.row.lt i e.symm).1; omega), fun X o hX h1 h2 => (hf.block X (Array.getElem?_eq_some_iff.1 hX).1 (fun e => by
    subst e
    exact h1 _ _ (Option.some.inj (hX.symm.trans h.blk))) (fun e => by
    obtain ⟨cur, hc⟩ := h.row.typ X e.symm
    exact h2 _ _ (Option.some.inj (hX.symm.trans hc)))).trans hX⟩
theorem PsAt.bkw {B : Nat} {w w' : World} {a : Option Addr} {len : Nat} {ps : List Pkt} (h : PsAt w a len ps) (hb : BkW B w w') (ht : ∀ g off, a = some ⟨g, off, none⟩ → ∃ cur fr, w.heap[g]? = some (.cells cur 39 fr)) : PsAt w' a len ps :=
  ⟨h.size, fun h0 => by
    obtain ⟨g, off, e, hl, hf⟩ := h.lies h0
    obtain ⟨cur, fr, hg⟩ := ht g off e
    have hk := hb.cells hg (by decide) (by decide)
    exact ⟨g, off, e, (Array.getElem?_eq_some_iff.1 hk).1, fun i hi => (hf i hi).kept (hk.trans hg.symm)⟩⟩
def newP (p : Pkt) : Pk := (p.1, p.2.1, p.2.2, false)
/-- How many there is room for. -/
def addN (l : List Pk) (ps : List Pkt) : Nat := min ps.length (4096 - l.length)
def addL (l : List Pk) (ps : List Pkt) : List Pk := l ++ (ps.take (addN l ps)).map newP
theorem take_more (ps : List Pkt) (k : Nat) (hk : k < ps.length) (l : List Pk) {p : Pkt} (hp : ps.getD k pk0 = p) : l ++ (ps.take (k + 1)).map newP = (l ++ (ps.take k).map newP) ++ [newP p] := by
  have e : ps.take (k + 1) = ps.take k ++ [p] := by
    rw [List.take_add_one, ← hp]
    simp [List.getD_eq_getElem?_getD, hk]
  rw [e, List.map_append, List.append_assoc]
  rfl
section
variable {B b : Nat} {v : Value} {l : List Pk}
set_option maxHeartbeats 8000000 in
theorem add_any (pa : Option Addr) (pl pc : Nat) (ps : List Pkt) (w : World) (h : Bk B w b v l) (hp : PsAt w pa pl ps) (hpc : pl ≤ pc) (hpn : ∀ g off, pa = some ⟨g, off, none⟩ → ∃ cur fr, w.heap[g]? = some (.cells cur 39 fr)) (hs : ∀ p ∈ ps, p.2.2.size ≤ 1000) (hpl : pl ≤ 1000) :
    Calls Try.prog 15 #[.pointer (some ⟨b, 0, none⟩), .slice pa pl pc] w fun x w' => x = .returned (.int .i64 (addN l ps : Nat)) ∧ (∃ v', Bk B w' b v' (addL l ps)) ∧ BkW B w w' := by
  obtain ⟨N, hN⟩ : ∃ N, addN l ps = N := ⟨_, rfl⟩
  have hps := hp.size
  have hlen := h.ok.len
  have hNle : N ≤ pl := by rw [← hN, ← hps]; unfold addN; omega
  have hNl : l.length + N ≤ 4096 := by rw [← hN]; unfold addN; omega
  have hadd : addL l ps = l ++ (ps.take N).map newP := by unfold addL; rw [hN]
  rw [hadd, hN]
  have hmin : min (pl : Int) (4096 - (l.length : Int)) = (N : Int) := by rw [← hN, ← hps]; unfold addN; omega
  have hwr : IntKind.i64.wrap (4096 - (l.length : Int)) = 4096 - (l.length : Int) := i64_id (by omega) (by omega)
  have hsl : ∀ w, (Instr.sliceAt 26 (.slice pa pl pc) none (some (.int .i64 (N : Int))) none).run Try.prog w = .ok (.slice pa N pc) w := slP_front pa pl pc N (by omega)
  obtain ⟨a0, c0', hv, _⟩ := h.row.is
  have c0 := h.c0
  rw [hv] at c0
  have HBK0 := Lib.hid h
  have HP := Lib.hid hp
  have HS := Lib.hid hs
  have HPN := Lib.hid hpn
  have HLB : Hid (B ≤ w.heap.size) := Lib.hid (Nat.le_trans h.lo (Nat.le_of_lt h.lt))
  obtain ⟨m, hm⟩ : ∃ m, l.length = m := ⟨_, rfl⟩
  rw [hm] at hmin hwr c0 hNl
  have HM := Lib.hid hm
  clear h hp hs hpn hv hN hadd hlen hm
  go_enter Try.func15, Try.ntmps15
  go_wp2_with fail
  go_loopw [21] (fun v21 wr => ∃ k : Nat, k ≤ N ∧ v21 = .int .i64 k ∧ (∃ v', Bk B wr b v' (l ++ (ps.take k).map newP)) ∧ BkW B w wr) (fun v21 _ => N - (intOf v21).toNat)
  case atStart => exact ⟨0, Nat.zero_le _, rfl, ⟨_, by simpa using HBK0.out⟩, BkW.refl _ _⟩
  case round =>
    obtain ⟨k, hk, rfl, ⟨v', hbk⟩, hbw⟩ := hrel
    by_cases hlt : k < N
    · obtain ⟨g, off, rfl, hgl, hf⟩ := (HP.out.bkw hbw HPN.out).lies (by omega)
      clear hgl
      have hfk := hf k (by omega)
      obtain ⟨⟨pf, pt, pd⟩, hpk⟩ : ∃ p, ps.getD k pk0 = p := ⟨_, rfl⟩
      have hsz := HS.out _ (getD_mem (z := pk0) (show k < ps.length by omega))
      rw [hpk] at hfk hsz
      have HTM := Lib.hid (take_more ps k (by omega) l hpk)
      have d0 := hfk.fr
      have d1 := hfk.to
      have d2 := hfk.d
      simp only at d0 d1 d2 hsz
      have HCP := fun w => Lib.hid (copied_any (pf, pt, pd) hsz w)
      unfold pv at HCP
      simp only at HCP
      have HSZ := Lib.hid hsz
      have HBW0 := Lib.hid hbw
      have HBKR := Lib.hid hbk
      have HLK : Hid ((l ++ (ps.take k).map newP).length = m + k) := Lib.hid (by rw [List.length_append, List.length_map, List.length_take, HM.out]; omega)
      clear hbk hbw hf hfk hpk hsz c0
      go_upto_region 5 with fail
      have HB0 : Hid (Below wr.heap.size wr (wr.alloc (.cells #[.int .i64 pf, .int .i64 pt, .string pd] 39))) := Lib.hid (Joins.below_alloc1 _ _)
      have hz0 : (wr.alloc (.cells #[.int .i64 pf, .int .i64 pt, .string pd] 39)).heap[wr.heap.size]? = some (.cells #[.int .i64 pf, .int .i64 pt, .string pd] 39 (0, 0)) := new_at rfl
      have HBK := Lib.hid (HBKR.out.next HB0.out)
      have HBW := Lib.hid (HBW0.out.trans (BkW.ofBelow HB0.out))
      obtain ⟨lk, hlk⟩ : ∃ lk, l ++ (ps.take k).map newP = lk := ⟨_, rfl⟩
      rw [hlk] at HBK HTM HLK
      generalize wr.alloc (.cells #[.int .i64 pf, .int .i64 pt, .string pd] 39) = w0 at *
      have x0 := cell_at hz0 0 (.int .i64 pf) rfl
      have x1 := cell_at hz0 1 (.int .i64 pt) rfl
      have x2 := cell_at hz0 2 (.string pd) rfl
      obtain ⟨a, c, hv, _⟩ := HBK.out.row.is
      subst hv
      have ck0 := HBK.out.c0
      have HLB := Lib.hid (Nat.le_trans HLB.out HBW.out.size)
      have HLT : Hid (lk.length < 4096) := Lib.hid (by rw [HLK.out]; omega)
      obtain ⟨n, hn⟩ : ∃ n, lk.length = n := ⟨_, rfl⟩
      rw [hn] at ck0
      have HN := Lib.hid hn
      have HW0 : Hid (Below w0.heap.size w0 w0.drew) := Lib.hid (Below.refl w0.heap.size w0).drew
      clear d0 d1 d2 hz0 hlk hn HBKR HBW0
      refine wp_region_held_drew (S := fun w' => 0 ≤ w'.heap.size) (by kernel_rfl) ?_ (fun hH => ?_)
      · exact (Nat.zero_le _)
      refine wpAnyH_take (i := 0) (oi := { dst := some 25, op := Go.Op.move (Go.Operand.tmp 0), type := 23, pos := "bag.go:35", after := #[], guard := none }) (v := ?_) rfl (by kernel_rfl) (by kernel_rfl) (by kernel_rfl) (fun _ _ _ h => h) (Or.inl ⟨by rfl, ?_⟩) (by assumption) ?_
      rotate_left
      · intro w hSw
        try dsimp only at hSw
        go_simp
        all_goals with_reducible rfl
      try simp only [Act.put, List.setIfInBounds_toArray, List.set_cons_zero, List.set_cons_succ]
      refine wpAnyH_take (i := 1) (oi := { dst := some 26, op := Go.Op.move (Go.Operand.tmp 0), type := 23, pos := "bag.go:35", after := #[], guard := none }) (v := ?_) rfl (by kernel_rfl) (by kernel_rfl) (by kernel_rfl) (fun _ _ _ h => h) (Or.inl ⟨by rfl, ?_⟩) (by assumption) ?_
      rotate_left
      · intro w hSw
        try dsimp only at hSw
        go_simp
        all_goals with_reducible rfl
      try simp only [Act.put, List.setIfInBounds_toArray, List.set_cons_zero, List.set_cons_succ]
      refine wpAnyH_take (i := 2) (oi := { dst := some 27, op := Go.Op.nilCheck (Go.Operand.tmp 26), type := 0, pos := "bag.go:35", after := #[{ on := 1, ground := Go.Ground.data }], guard := none }) (v := ?_) rfl (by kernel_rfl) (by kernel_rfl) (by kernel_rfl) (fun _ _ _ h => h) (Or.inl ⟨by rfl, ?_⟩) (by assumption) ?_
      rotate_left
      · intro w hSw
        try dsimp only at hSw
        go_simp
        all_goals with_reducible rfl
      try simp only [Act.put, List.setIfInBounds_toArray, List.set_cons_zero, List.set_cons_succ]
      refine wpAnyH_take (i := 3) (oi := { dst := some 28, op := Go.Op.fieldAddr 53 (Go.Operand.tmp 27) 0, type := 0, pos := "bag.go:35", after := #[{ on := 2, ground := Go.Ground.data }], guard := none }) (v := ?_) rfl (by kernel_rfl) (by kernel_rfl) (by kernel_rfl) (fun _ _ _ h => h) (Or.inl ⟨by rfl, ?_⟩) (by assumption) ?_
      rotate_left
      · intro w hSw
        try dsimp only at hSw
        go_simp
        all_goals with_reducible rfl
      try simp only [Act.put, List.setIfInBounds_toArray, List.set_cons_zero, List.set_cons_succ]
      refine wpAnyH_ready (rs := [4, 5]) (by kernel_rfl) (by simp) ?_
      refine AllReadyH.cons (o := { dst := some 29, op := Go.Op.load 51 (Go.Operand.tmp 28), type := 51, pos := "bag.go:35", after := #[{ on := 3, ground := Go.Ground.data }], guard := none }) rfl (fun K hK => ?_) ?_
      · go_simp
        refine hK.out _ _ ?_ (fun hH => ?_)
        · exact (Nat.zero_le _)
        clear hK K
        try simp only [Act.put, List.setIfInBounds_toArray, List.set_cons_zero, List.set_cons_succ]
        refine wpAnyH_ready (rs := [5]) (by kernel_rfl) (by simp) ?_
        refine AllReadyH.cons (o := { dst := some 30, op := Go.Op.load 39 (Go.Operand.tmp 7), type := 39, pos := "bag.go:35", after := #[], guard := none }) rfl (fun K hK => ?_) ?_
        · go_simp
          refine hK.out _ _ ?_ (fun hH => ?_)
          · exact (Nat.zero_le _)
          clear hK K
          try simp only [Act.put, List.setIfInBounds_toArray, List.set_cons_zero, List.set_cons_succ]
          refine wpAnyH_ready (rs := [6]) (by kernel_rfl) (by simp) ?_
          refine AllReadyH.cons (o := { dst := some 31, op := Go.Op.call { callee := Go.Callee.value (Go.Operand.func 25), args := #[Go.Operand.tmp 30], argTypes := #[39] }, type := 39, pos := "bag.go:35", after := #[{ on := 5, ground := Go.Ground.data }], guard := none }) rfl (fun K hK => ?_) ?_
          · go_simp
            refine (HCP _).out.mono ?_
            rintro e w5 ⟨rfl, hb5⟩
            have HW1 : Hid (Below w0.heap.size w0 w5) := Lib.hid (Below.next HW0.out hb5)
            have ck1 : w5.cell? ⟨b, 0, none⟩ = some (Value.slice a n c) := by
              have := (HBK.out.next HW1.out).c0
              rw [HN.out] at this
              exact this
            clear hb5
            go_wp2_with fail
            refine hK.out _ _ ?_ (fun hH => ?_)
            · exact (Nat.zero_le _)
            clear hK K
            try simp only [Act.put, List.setIfInBounds_toArray, List.set_cons_zero, List.set_cons_succ]
            refine wpAnyH_take (i := 7) (oi := { dst := some 32, op := Go.Op.build 60 #[(0, Go.Operand.tmp 31)], type := 60, pos := "bag.go:35", after := #[{ on := 6, ground := Go.Ground.data }], guard := none }) (v := ?_) rfl (by kernel_rfl) (by kernel_rfl) (by kernel_rfl) (fun _ _ _ h => h) (Or.inl ⟨by rfl, ?_⟩) (by assumption) ?_
            rotate_left
            · intro w hSw
              try dsimp only at hSw
              go_simp
              all_goals with_reducible rfl
            try simp only [Act.put, List.setIfInBounds_toArray, List.set_cons_zero, List.set_cons_succ]
            refine wpAnyH_ready (rs := [8]) (by kernel_rfl) (by simp) ?_
            refine AllReadyH.cons (o := { dst := some 33, op := Go.Op.buildSlice 51 1 #[(0, Go.Operand.tmp 32)], type := 51, pos := "bag.go:35", after := #[{ on := 7, ground := Go.Ground.data }], guard := none }) rfl (fun K hK => ?_) ?_
            · go_simp
              have HW2 : Hid (Below w0.heap.size w0 (w5.alloc (.cells #[.int .i64 pf, .int .i64 pt, .string pd, .bool false] 60))) := Lib.hid (Below.step HW1.out (.cells #[.int .i64 pf, .int .i64 pt, .string pd, .bool false] 60) (Below.refl _ _))
              have ck2 : (w5.alloc (.cells #[.int .i64 pf, .int .i64 pt, .string pd, .bool false] 60)).cell? ⟨b, 0, none⟩ = some (Value.slice a n c) := by
                have := (HBK.out.next HW2.out).c0
                rw [HN.out] at this
                exact this
              have HONE : Hid (KsAt (w5.alloc (.cells #[.int .i64 pf, .int .i64 pt, .string pd, .bool false] 60)) (some ⟨w5.heap.size, 0, none⟩) 1 [newP (pf, pt, pd)]) := Lib.hid (ksAt_one w5 pf pt pd false)
              refine hK.out _ _ ?_ (fun hH => ?_)
              · exact (Nat.zero_le _)
              clear hK K
              try simp only [Act.put, List.setIfInBounds_toArray, List.set_cons_zero, List.set_cons_succ]
              refine wpAnyH_ready (rs := [9]) (by kernel_rfl) (by simp) ?_
              refine AllReadyH.cons (o := { dst := some 34, op := Go.Op.call { callee := Go.Callee.builtin Go.Builtin.append, args := #[Go.Operand.tmp 29, Go.Operand.tmp 33], argTypes := #[51, 51] }, type := 51, pos := "bag.go:35", after := #[{ on := 4, ground := Go.Ground.data }, { on := 8, ground := Go.Ground.data }, { on := 6, ground := Go.Ground.chain }], guard := none }) rfl (fun K hK => ?_) ?_
              · obtain ⟨a2, c2, w8, hrun, hrw8, hgr8, _⟩ := run_appK (w5.alloc (.cells #[.int .i64 pf, .int .i64 pt, .string pd, .bool false] 60)) 51 B _ lk (by have := (HBK.out.next HW2.out).row; exact this) (some ⟨w5.heap.size, 0, none⟩) 1 1 [newP (pf, pt, pd)] HONE.out (Nat.le_refl _) (fun e => by cases e) (by have := HBK.out.ok.len; omega) (Nat.le_trans HLB.out HW2.out.size)
                rw [HN.out] at hrun hrw8
                have HFIN := Lib.hid (app_fin (p := newP (pf, pt, pd)) HBK.out HW2.out hrw8 hgr8 HLT.out HSZ.out)
                have hb8 := HFIN.out.1
                have ck8 := cell_at hb8 0 _ rfl
                have fk8 := unfrozen_at hb8 0
                clear hrw8 hgr8 hb8
                refine step_append_run (by rfl) (.tmp 29) (.tmp 33) 51 rfl _ _ _ rfl rfl hrun ?_
                refine hK.out _ _ ?_ (fun hH => ?_)
                · exact (Nat.zero_le _)
                clear hK K
                try simp only [Act.put, List.setIfInBounds_toArray, List.set_cons_zero, List.set_cons_succ]
                refine wpAnyH_take (i := 10) (oi := { dst := some 35, op := Go.Op.nilCheck (Go.Operand.tmp 25), type := 0, pos := "bag.go:35", after := #[{ on := 0, ground := Go.Ground.data }, { on := 0, ground := Go.Ground.phase }, { on := 1, ground := Go.Ground.phase }, { on := 2, ground := Go.Ground.phase }, { on := 3, ground := Go.Ground.phase }, { on := 4, ground := Go.Ground.phase }, { on := 5, ground := Go.Ground.phase }, { on := 6, ground := Go.Ground.phase }, { on := 7, ground := Go.Ground.phase }, { on := 8, ground := Go.Ground.phase }, { on := 9, ground := Go.Ground.phase }], guard := none }) (v := ?_) rfl (by kernel_rfl) (by kernel_rfl) (by kernel_rfl) (fun _ _ _ h => h) (Or.inl ⟨by rfl, ?_⟩) (by assumption) ?_
                rotate_left
                · intro w hSw
                  try dsimp only at hSw
                  go_simp
                  all_goals with_reducible rfl
                try simp only [Act.put, List.setIfInBounds_toArray, List.set_cons_zero, List.set_cons_succ]
                refine wpAnyH_take (i := 11) (oi := { dst := some 36, op := Go.Op.fieldAddr 53 (Go.Operand.tmp 35) 0, type := 0, pos := "bag.go:35", after := #[{ on := 10, ground := Go.Ground.data }, { on := 0, ground := Go.Ground.phase }, { on := 1, ground := Go.Ground.phase }, { on := 2, ground := Go.Ground.phase }, { on := 3, ground := Go.Ground.phase }, { on := 4, ground := Go.Ground.phase }, { on := 5, ground := Go.Ground.phase }, { on := 6, ground := Go.Ground.phase }, { on := 7, ground := Go.Ground.phase }, { on := 8, ground := Go.Ground.phase }, { on := 9, ground := Go.Ground.phase }], guard := none }) (v := ?_) rfl (by kernel_rfl) (by kernel_rfl) (by kernel_rfl) (fun _ _ _ h => h) (Or.inl ⟨by rfl, ?_⟩) (by assumption) ?_
                rotate_left
                · intro w hSw
                  try dsimp only at hSw
                  go_simp
                  all_goals with_reducible rfl
                try simp only [Act.put, List.setIfInBounds_toArray, List.set_cons_zero, List.set_cons_succ]
                refine wpAnyH_ready (rs := [12]) (by kernel_rfl) (by simp) ?_
                refine AllReadyH.cons (o := { dst := none, op := Go.Op.store 51 (Go.Operand.tmp 36) (Go.Operand.tmp 34), type := 0, pos := "bag.go:35", after := #[{ on := 11, ground := Go.Ground.data }, { on := 9, ground := Go.Ground.data }, { on := 9, ground := Go.Ground.chain }, { on := 0, ground := Go.Ground.phase }, { on := 1, ground := Go.Ground.phase }, { on := 2, ground := Go.Ground.phase }, { on := 3, ground := Go.Ground.phase }, { on := 4, ground := Go.Ground.phase }, { on := 5, ground := Go.Ground.phase }, { on := 6, ground := Go.Ground.phase }, { on := 7, ground := Go.Ground.phase }, { on := 8, ground := Go.Ground.phase }, { on := 9, ground := Go.Ground.phase }], guard := none }) rfl (fun K hK => ?_) ?_
                · go_simp
                  refine hK.out _ _ ?_ (fun hH => ?_)
                  · exact (Nat.zero_le _)
                  clear hK K
                  try simp only [Act.put, List.setIfInBounds_toArray, List.set_cons_zero, List.set_cons_succ]
                  refine wpAnyH_done (by kernel_rfl) ?_ _
                  clear hrun ck8 fk8
                  go_wp2
                  go_roundw
                  case rel => exact ⟨k + 1, by omega, by go_num, ⟨_, by rw [HTM.out]; exact HFIN.out.2.1⟩, HBW.out.trans (BkW.of HBK.out HFIN.out.2.2)⟩
                  case measure => simp [intOf]; omega
                exact AllReadyH.nil
              exact AllReadyH.nil
            exact AllReadyH.nil
          exact AllReadyH.nil
        exact AllReadyH.nil
      refine AllReadyH.cons (o := { dst := some 30, op := Go.Op.load 39 (Go.Operand.tmp 7), type := 39, pos := "bag.go:35", after := #[], guard := none }) rfl (fun K hK => ?_) ?_
      · go_simp
        refine hK.out _ _ ?_ (fun hH => ?_)
        · exact (Nat.zero_le _)
        clear hK K
        try simp only [Act.put, List.setIfInBounds_toArray, List.set_cons_zero, List.set_cons_succ]
        refine wpAnyH_ready (rs := [4, 6]) (by kernel_rfl) (by simp) ?_
        refine AllReadyH.cons (o := { dst := some 29, op := Go.Op.load 51 (Go.Operand.tmp 28), type := 51, pos := "bag.go:35", after := #[{ on := 3, ground := Go.Ground.data }], guard := none }) rfl (fun K hK => ?_) ?_
        · go_simp
          refine hK.out _ _ ?_ (fun hH => ?_)
          · exact (Nat.zero_le _)
          clear hK K
          try simp only [Act.put, List.setIfInBounds_toArray, List.set_cons_zero, List.set_cons_succ]
          refine wpAnyH_ready (rs := [6]) (by kernel_rfl) (by simp) ?_
          refine AllReadyH.cons (o := { dst := some 31, op := Go.Op.call { callee := Go.Callee.value (Go.Operand.func 25), args := #[Go.Operand.tmp 30], argTypes := #[39] }, type := 39, pos := "bag.go:35", after := #[{ on := 5, ground := Go.Ground.data }], guard := none }) rfl (fun K hK => ?_) ?_
          · go_simp
            refine (HCP _).out.mono ?_
            rintro e w5 ⟨rfl, hb5⟩
            have HW1 : Hid (Below w0.heap.size w0 w5) := Lib.hid (Below.next HW0.out hb5)
            have ck1 : w5.cell? ⟨b, 0, none⟩ = some (Value.slice a n c) := by
              have := (HBK.out.next HW1.out).c0
              rw [HN.out] at this
              exact this
            clear hb5
            go_wp2_with fail
            refine hK.out _ _ ?_ (fun hH => ?_)
            · exact (Nat.zero_le _)
            clear hK K
            try simp only [Act.put, List.setIfInBounds_toArray, List.set_cons_zero, List.set_cons_succ]
            refine wpAnyH_take (i := 7) (oi := { dst := some 32, op := Go.Op.build 60 #[(0, Go.Operand.tmp 31)], type := 60, pos := "bag.go:35", after := #[{ on := 6, ground := Go.Ground.data }], guard := none }) (v := ?_) rfl (by kernel_rfl) (by kernel_rfl) (by kernel_rfl) (fun _ _ _ h => h) (Or.inl ⟨by rfl, ?_⟩) (by assumption) ?_
            rotate_left
            · intro w hSw
              try dsimp only at hSw
              go_simp
              all_goals with_reducible rfl
            try simp only [Act.put, List.setIfInBounds_toArray, List.set_cons_zero, List.set_cons_succ]
            refine wpAnyH_ready (rs := [8]) (by kernel_rfl) (by simp) ?_
            refine AllReadyH.cons (o := { dst := some 33, op := Go.Op.buildSlice 51 1 #[(0, Go.Operand.tmp 32)], type := 51, pos := "bag.go:35", after := #[{ on := 7, ground := Go.Ground.data }], guard := none }) rfl (fun K hK => ?_) ?_
            · go_simp
              have HW2 : Hid (Below w0.heap.size w0 (w5.alloc (.cells #[.int .i64 pf, .int .i64 pt, .string pd, .bool false] 60))) := Lib.hid (Below.step HW1.out (.cells #[.int .i64 pf, .int .i64 pt, .string pd, .bool false] 60) (Below.refl _ _))
              have ck2 : (w5.alloc (.cells #[.int .i64 pf, .int .i64 pt, .string pd, .bool false] 60)).cell? ⟨b, 0, none⟩ = some (Value.slice a n c) := by
                have := (HBK.out.next HW2.out).c0
                rw [HN.out] at this
                exact this
              have HONE : Hid (KsAt (w5.alloc (.cells #[.int .i64 pf, .int .i64 pt, .string pd, .bool false] 60)) (some ⟨w5.heap.size, 0, none⟩) 1 [newP (pf, pt, pd)]) := Lib.hid (ksAt_one w5 pf pt pd false)
              refine hK.out _ _ ?_ (fun hH => ?_)
              · exact (Nat.zero_le _)
              clear hK K
              try simp only [Act.put, List.setIfInBounds_toArray, List.set_cons_zero, List.set_cons_succ]
              refine wpAnyH_ready (rs := [9]) (by kernel_rfl) (by simp) ?_
              refine AllReadyH.cons (o := { dst := some 34, op := Go.Op.call { callee := Go.Callee.builtin Go.Builtin.append, args := #[Go.Operand.tmp 29, Go.Operand.tmp 33], argTypes := #[51, 51] }, type := 51, pos := "bag.go:35", after := #[{ on := 4, ground := Go.Ground.data }, { on := 8, ground := Go.Ground.data }, { on := 6, ground := Go.Ground.chain }], guard := none }) rfl (fun K hK => ?_) ?_
              · obtain ⟨a2, c2, w8, hrun, hrw8, hgr8, _⟩ := run_appK (w5.alloc (.cells #[.int .i64 pf, .int .i64 pt, .string pd, .bool false] 60)) 51 B _ lk (by have := (HBK.out.next HW2.out).row; exact this) (some ⟨w5.heap.size, 0, none⟩) 1 1 [newP (pf, pt, pd)] HONE.out (Nat.le_refl _) (fun e => by cases e) (by have := HBK.out.ok.len; omega) (Nat.le_trans HLB.out HW2.out.size)
                rw [HN.out] at hrun hrw8
                have HFIN := Lib.hid (app_fin (p := newP (pf, pt, pd)) HBK.out HW2.out hrw8 hgr8 HLT.out HSZ.out)
                have hb8 := HFIN.out.1
                have ck8 := cell_at hb8 0 _ rfl
                have fk8 := unfrozen_at hb8 0
                clear hrw8 hgr8 hb8
                refine step_append_run (by rfl) (.tmp 29) (.tmp 33) 51 rfl _ _ _ rfl rfl hrun ?_
                refine hK.out _ _ ?_ (fun hH => ?_)
                · exact (Nat.zero_le _)
                clear hK K
                try simp only [Act.put, List.setIfInBounds_toArray, List.set_cons_zero, List.set_cons_succ]
                refine wpAnyH_take (i := 10) (oi := { dst := some 35, op := Go.Op.nilCheck (Go.Operand.tmp 25), type := 0, pos := "bag.go:35", after := #[{ on := 0, ground := Go.Ground.data }, { on := 0, ground := Go.Ground.phase }, { on := 1, ground := Go.Ground.phase }, { on := 2, ground := Go.Ground.phase }, { on := 3, ground := Go.Ground.phase }, { on := 4, ground := Go.Ground.phase }, { on := 5, ground := Go.Ground.phase }, { on := 6, ground := Go.Ground.phase }, { on := 7, ground := Go.Ground.phase }, { on := 8, ground := Go.Ground.phase }, { on := 9, ground := Go.Ground.phase }], guard := none }) (v := ?_) rfl (by kernel_rfl) (by kernel_rfl) (by kernel_rfl) (fun _ _ _ h => h) (Or.inl ⟨by rfl, ?_⟩) (by assumption) ?_
                rotate_left
                · intro w hSw
                  try dsimp only at hSw
                  go_simp
                  all_goals with_reducible rfl
                try simp only [Act.put, List.setIfInBounds_toArray, List.set_cons_zero, List.set_cons_succ]
                refine wpAnyH_take (i := 11) (oi := { dst := some 36, op := Go.Op.fieldAddr 53 (Go.Operand.tmp 35) 0, type := 0, pos := "bag.go:35", after := #[{ on := 10, ground := Go.Ground.data }, { on := 0, ground := Go.Ground.phase }, { on := 1, ground := Go.Ground.phase }, { on := 2, ground := Go.Ground.phase }, { on := 3, ground := Go.Ground.phase }, { on := 4, ground := Go.Ground.phase }, { on := 5, ground := Go.Ground.phase }, { on := 6, ground := Go.Ground.phase }, { on := 7, ground := Go.Ground.phase }, { on := 8, ground := Go.Ground.phase }, { on := 9, ground := Go.Ground.phase }], guard := none }) (v := ?_) rfl (by kernel_rfl) (by kernel_rfl) (by kernel_rfl) (fun _ _ _ h => h) (Or.inl ⟨by rfl, ?_⟩) (by assumption) ?_
                rotate_left
                · intro w hSw
                  try dsimp only at hSw
                  go_simp
                  all_goals with_reducible rfl
                try simp only [Act.put, List.setIfInBounds_toArray, List.set_cons_zero, List.set_cons_succ]
                refine wpAnyH_ready (rs := [12]) (by kernel_rfl) (by simp) ?_
                refine AllReadyH.cons (o := { dst := none, op := Go.Op.store 51 (Go.Operand.tmp 36) (Go.Operand.tmp 34), type := 0, pos := "bag.go:35", after := #[{ on := 11, ground := Go.Ground.data }, { on := 9, ground := Go.Ground.data }, { on := 9, ground := Go.Ground.chain }, { on := 0, ground := Go.Ground.phase }, { on := 1, ground := Go.Ground.phase }, { on := 2, ground := Go.Ground.phase }, { on := 3, ground := Go.Ground.phase }, { on := 4, ground := Go.Ground.phase }, { on := 5, ground := Go.Ground.phase }, { on := 6, ground := Go.Ground.phase }, { on := 7, ground := Go.Ground.phase }, { on := 8, ground := Go.Ground.phase }, { on := 9, ground := Go.Ground.phase }], guard := none }) rfl (fun K hK => ?_) ?_
                · go_simp
                  refine hK.out _ _ ?_ (fun hH => ?_)
                  · exact (Nat.zero_le _)
                  clear hK K
                  try simp only [Act.put, List.setIfInBounds_toArray, List.set_cons_zero, List.set_cons_succ]
                  refine wpAnyH_done (by kernel_rfl) ?_ _
                  clear hrun ck8 fk8
                  go_wp2
                  go_roundw
                  case rel => exact ⟨k + 1, by omega, by go_num, ⟨_, by rw [HTM.out]; exact HFIN.out.2.1⟩, HBW.out.trans (BkW.of HBK.out HFIN.out.2.2)⟩
                  case measure => simp [intOf]; omega
                exact AllReadyH.nil
              exact AllReadyH.nil
            exact AllReadyH.nil
          exact AllReadyH.nil
        refine AllReadyH.cons (o := { dst := some 31, op := Go.Op.call { callee := Go.Callee.value (Go.Operand.func 25), args := #[Go.Operand.tmp 30], argTypes := #[39] }, type := 39, pos := "bag.go:35", after := #[{ on := 5, ground := Go.Ground.data }], guard := none }) rfl (fun K hK => ?_) ?_
        · go_simp
          refine (HCP _).out.mono ?_
          rintro e w5 ⟨rfl, hb5⟩
          have HW1 : Hid (Below w0.heap.size w0 w5) := Lib.hid (Below.next HW0.out hb5)
          have ck1 : w5.cell? ⟨b, 0, none⟩ = some (Value.slice a n c) := by
            have := (HBK.out.next HW1.out).c0
            rw [HN.out] at this
            exact this
          clear hb5
          go_wp2_with fail
          refine hK.out _ _ ?_ (fun hH => ?_)
          · exact (Nat.zero_le _)
          clear hK K
          try simp only [Act.put, List.setIfInBounds_toArray, List.set_cons_zero, List.set_cons_succ]
          refine wpAnyH_take (i := 7) (oi := { dst := some 32, op := Go.Op.build 60 #[(0, Go.Operand.tmp 31)], type := 60, pos := "bag.go:35", after := #[{ on := 6, ground := Go.Ground.data }], guard := none }) (v := ?_) rfl (by kernel_rfl) (by kernel_rfl) (by kernel_rfl) (fun _ _ _ h => h) (Or.inl ⟨by rfl, ?_⟩) (by assumption) ?_
          rotate_left
          · intro w hSw
            try dsimp only at hSw
            go_simp
            all_goals with_reducible rfl
          try simp only [Act.put, List.setIfInBounds_toArray, List.set_cons_zero, List.set_cons_succ]
          refine wpAnyH_ready (rs := [4, 8]) (by kernel_rfl) (by simp) ?_
          refine AllReadyH.cons (o := { dst := some 29, op := Go.Op.load 51 (Go.Operand.tmp 28), type := 51, pos := "bag.go:35", after := #[{ on := 3, ground := Go.Ground.data }], guard := none }) rfl (fun K hK => ?_) ?_
          · go_simp
            refine hK.out _ _ ?_ (fun hH => ?_)
            · exact (Nat.zero_le _)
            clear hK K
            try simp only [Act.put, List.setIfInBounds_toArray, List.set_cons_zero, List.set_cons_succ]
            refine wpAnyH_ready (rs := [8]) (by kernel_rfl) (by simp) ?_
            refine AllReadyH.cons (o := { dst := some 33, op := Go.Op.buildSlice 51 1 #[(0, Go.Operand.tmp 32)], type := 51, pos := "bag.go:35", after := #[{ on := 7, ground := Go.Ground.data }], guard := none }) rfl (fun K hK => ?_) ?_
            · go_simp
              have HW2 : Hid (Below w0.heap.size w0 (w5.alloc (.cells #[.int .i64 pf, .int .i64 pt, .string pd, .bool false] 60))) := Lib.hid (Below.step HW1.out (.cells #[.int .i64 pf, .int .i64 pt, .string pd, .bool false] 60) (Below.refl _ _))
              have ck2 : (w5.alloc (.cells #[.int .i64 pf, .int .i64 pt, .string pd, .bool false] 60)).cell? ⟨b, 0, none⟩ = some (Value.slice a n c) := by
                have := (HBK.out.next HW2.out).c0
                rw [HN.out] at this
                exact this
              have HONE : Hid (KsAt (w5.alloc (.cells #[.int .i64 pf, .int .i64 pt, .string pd, .bool false] 60)) (some ⟨w5.heap.size, 0, none⟩) 1 [newP (pf, pt, pd)]) := Lib.hid (ksAt_one w5 pf pt pd false)
              refine hK.out _ _ ?_ (fun hH => ?_)
              · exact (Nat.zero_le _)
              clear hK K
              try simp only [Act.put, List.setIfInBounds_toArray, List.set_cons_zero, List.set_cons_succ]
              refine wpAnyH_ready (rs := [9]) (by kernel_rfl) (by simp) ?_
              refine AllReadyH.cons (o := { dst := some 34, op := Go.Op.call { callee := Go.Callee.builtin Go.Builtin.append, args := #[Go.Operand.tmp 29, Go.Operand.tmp 33], argTypes := #[51, 51] }, type := 51, pos := "bag.go:35", after := #[{ on := 4, ground := Go.Ground.data }, { on := 8, ground := Go.Ground.data }, { on := 6, ground := Go.Ground.chain }], guard := none }) rfl (fun K hK => ?_) ?_
              · obtain ⟨a2, c2, w8, hrun, hrw8, hgr8, _⟩ := run_appK (w5.alloc (.cells #[.int .i64 pf, .int .i64 pt, .string pd, .bool false] 60)) 51 B _ lk (by have := (HBK.out.next HW2.out).row; exact this) (some ⟨w5.heap.size, 0, none⟩) 1 1 [newP (pf, pt, pd)] HONE.out (Nat.le_refl _) (fun e => by cases e) (by have := HBK.out.ok.len; omega) (Nat.le_trans HLB.out HW2.out.size)
                rw [HN.out] at hrun hrw8
                have HFIN := Lib.hid (app_fin (p := newP (pf, pt, pd)) HBK.out HW2.out hrw8 hgr8 HLT.out HSZ.out)
                have hb8 := HFIN.out.1
                have ck8 := cell_at hb8 0 _ rfl
                have fk8 := unfrozen_at hb8 0
                clear hrw8 hgr8 hb8
                refine step_append_run (by rfl) (.tmp 29) (.tmp 33) 51 rfl _ _ _ rfl rfl hrun ?_
                refine hK.out _ _ ?_ (fun hH => ?_)
                · exact (Nat.zero_le _)
                clear hK K
                try simp only [Act.put, List.setIfInBounds_toArray, List.set_cons_zero, List.set_cons_succ]
                refine wpAnyH_take (i := 10) (oi := { dst := some 35, op := Go.Op.nilCheck (Go.Operand.tmp 25), type := 0, pos := "bag.go:35", after := #[{ on := 0, ground := Go.Ground.data }, { on := 0, ground := Go.Ground.phase }, { on := 1, ground := Go.Ground.phase }, { on := 2, ground := Go.Ground.phase }, { on := 3, ground := Go.Ground.phase }, { on := 4, ground := Go.Ground.phase }, { on := 5, ground := Go.Ground.phase }, { on := 6, ground := Go.Ground.phase }, { on := 7, ground := Go.Ground.phase }, { on := 8, ground := Go.Ground.phase }, { on := 9, ground := Go.Ground.phase }], guard := none }) (v := ?_) rfl (by kernel_rfl) (by kernel_rfl) (by kernel_rfl) (fun _ _ _ h => h) (Or.inl ⟨by rfl, ?_⟩) (by assumption) ?_
                rotate_left
                · intro w hSw
                  try dsimp only at hSw
                  go_simp
                  all_goals with_reducible rfl
                try simp only [Act.put, List.setIfInBounds_toArray, List.set_cons_zero, List.set_cons_succ]
                refine wpAnyH_take (i := 11) (oi := { dst := some 36, op := Go.Op.fieldAddr 53 (Go.Operand.tmp 35) 0, type := 0, pos := "bag.go:35", after := #[{ on := 10, ground := Go.Ground.data }, { on := 0, ground := Go.Ground.phase }, { on := 1, ground := Go.Ground.phase }, { on := 2, ground := Go.Ground.phase }, { on := 3, ground := Go.Ground.phase }, { on := 4, ground := Go.Ground.phase }, { on := 5, ground := Go.Ground.phase }, { on := 6, ground := Go.Ground.phase }, { on := 7, ground := Go.Ground.phase }, { on := 8, ground := Go.Ground.phase }, { on := 9, ground := Go.Ground.phase }], guard := none }) (v := ?_) rfl (by kernel_rfl) (by kernel_rfl) (by kernel_rfl) (fun _ _ _ h => h) (Or.inl ⟨by rfl, ?_⟩) (by assumption) ?_
                rotate_left
                · intro w hSw
                  try dsimp only at hSw
                  go_simp
                  all_goals with_reducible rfl
                try simp only [Act.put, List.setIfInBounds_toArray, List.set_cons_zero, List.set_cons_succ]
                refine wpAnyH_ready (rs := [12]) (by kernel_rfl) (by simp) ?_
                refine AllReadyH.cons (o := { dst := none, op := Go.Op.store 51 (Go.Operand.tmp 36) (Go.Operand.tmp 34), type := 0, pos := "bag.go:35", after := #[{ on := 11, ground := Go.Ground.data }, { on := 9, ground := Go.Ground.data }, { on := 9, ground := Go.Ground.chain }, { on := 0, ground := Go.Ground.phase }, { on := 1, ground := Go.Ground.phase }, { on := 2, ground := Go.Ground.phase }, { on := 3, ground := Go.Ground.phase }, { on := 4, ground := Go.Ground.phase }, { on := 5, ground := Go.Ground.phase }, { on := 6, ground := Go.Ground.phase }, { on := 7, ground := Go.Ground.phase }, { on := 8, ground := Go.Ground.phase }, { on := 9, ground := Go.Ground.phase }], guard := none }) rfl (fun K hK => ?_) ?_
                · go_simp
                  refine hK.out _ _ ?_ (fun hH => ?_)
                  · exact (Nat.zero_le _)
                  clear hK K
                  try simp only [Act.put, List.setIfInBounds_toArray, List.set_cons_zero, List.set_cons_succ]
                  refine wpAnyH_done (by kernel_rfl) ?_ _
                  clear hrun ck8 fk8
                  go_wp2
                  go_roundw
                  case rel => exact ⟨k + 1, by omega, by go_num, ⟨_, by rw [HTM.out]; exact HFIN.out.2.1⟩, HBW.out.trans (BkW.of HBK.out HFIN.out.2.2)⟩
                  case measure => simp [intOf]; omega
                exact AllReadyH.nil
              exact AllReadyH.nil
            exact AllReadyH.nil
          refine AllReadyH.cons (o := { dst := some 33, op := Go.Op.buildSlice 51 1 #[(0, Go.Operand.tmp 32)], type := 51, pos := "bag.go:35", after := #[{ on := 7, ground := Go.Ground.data }], guard := none }) rfl (fun K hK => ?_) ?_
          · go_simp
            have HW2 : Hid (Below w0.heap.size w0 (w5.alloc (.cells #[.int .i64 pf, .int .i64 pt, .string pd, .bool false] 60))) := Lib.hid (Below.step HW1.out (.cells #[.int .i64 pf, .int .i64 pt, .string pd, .bool false] 60) (Below.refl _ _))
            have ck2 : (w5.alloc (.cells #[.int .i64 pf, .int .i64 pt, .string pd, .bool false] 60)).cell? ⟨b, 0, none⟩ = some (Value.slice a n c) := by
              have := (HBK.out.next HW2.out).c0
              rw [HN.out] at this
              exact this
            have HONE : Hid (KsAt (w5.alloc (.cells #[.int .i64 pf, .int .i64 pt, .string pd, .bool false] 60)) (some ⟨w5.heap.size, 0, none⟩) 1 [newP (pf, pt, pd)]) := Lib.hid (ksAt_one w5 pf pt pd false)
            refine hK.out _ _ ?_ (fun hH => ?_)
            · exact (Nat.zero_le _)
            clear hK K
            try simp only [Act.put, List.setIfInBounds_toArray, List.set_cons_zero, List.set_cons_succ]
            refine wpAnyH_ready (rs := [4]) (by kernel_rfl) (by simp) ?_
            refine AllReadyH.cons (o := { dst := some 29, op := Go.Op.load 51 (Go.Operand.tmp 28), type := 51, pos := "bag.go:35", after := #[{ on := 3, ground := Go.Ground.data }], guard := none }) rfl (fun K hK => ?_) ?_
            · go_simp
              refine hK.out _ _ ?_ (fun hH => ?_)
              · exact (Nat.zero_le _)
              clear hK K
              try simp only [Act.put, List.setIfInBounds_toArray, List.set_cons_zero, List.set_cons_succ]
              refine wpAnyH_ready (rs := [9]) (by kernel_rfl) (by simp) ?_
              refine AllReadyH.cons (o := { dst := some 34, op := Go.Op.call { callee := Go.Callee.builtin Go.Builtin.append, args := #[Go.Operand.tmp 29, Go.Operand.tmp 33], argTypes := #[51, 51] }, type := 51, pos := "bag.go:35", after := #[{ on := 4, ground := Go.Ground.data }, { on := 8, ground := Go.Ground.data }, { on := 6, ground := Go.Ground.chain }], guard := none }) rfl (fun K hK => ?_) ?_
              · obtain ⟨a2, c2, w8, hrun, hrw8, hgr8, _⟩ := run_appK (w5.alloc (.cells #[.int .i64 pf, .int .i64 pt, .string pd, .bool false] 60)) 51 B _ lk (by have := (HBK.out.next HW2.out).row; exact this) (some ⟨w5.heap.size, 0, none⟩) 1 1 [newP (pf, pt, pd)] HONE.out (Nat.le_refl _) (fun e => by cases e) (by have := HBK.out.ok.len; omega) (Nat.le_trans HLB.out HW2.out.size)
                rw [HN.out] at hrun hrw8
                have HFIN := Lib.hid (app_fin (p := newP (pf, pt, pd)) HBK.out HW2.out hrw8 hgr8 HLT.out HSZ.out)
                have hb8 := HFIN.out.1
                have ck8 := cell_at hb8 0 _ rfl
                have fk8 := unfrozen_at hb8 0
                clear hrw8 hgr8 hb8
                refine step_append_run (by rfl) (.tmp 29) (.tmp 33) 51 rfl _ _ _ rfl rfl hrun ?_
                refine hK.out _ _ ?_ (fun hH => ?_)
                · exact (Nat.zero_le _)
                clear hK K
                try simp only [Act.put, List.setIfInBounds_toArray, List.set_cons_zero, List.set_cons_succ]
                refine wpAnyH_take (i := 10) (oi := { dst := some 35, op := Go.Op.nilCheck (Go.Operand.tmp 25), type := 0, pos := "bag.go:35", after := #[{ on := 0, ground := Go.Ground.data }, { on := 0, ground := Go.Ground.phase }, { on := 1, ground := Go.Ground.phase }, { on := 2, ground := Go.Ground.phase }, { on := 3, ground := Go.Ground.phase }, { on := 4, ground := Go.Ground.phase }, { on := 5, ground := Go.Ground.phase }, { on := 6, ground := Go.Ground.phase }, { on := 7, ground := Go.Ground.phase }, { on := 8, ground := Go.Ground.phase }, { on := 9, ground := Go.Ground.phase }], guard := none }) (v := ?_) rfl (by kernel_rfl) (by kernel_rfl) (by kernel_rfl) (fun _ _ _ h => h) (Or.inl ⟨by rfl, ?_⟩) (by assumption) ?_
                rotate_left
                · intro w hSw
                  try dsimp only at hSw
                  go_simp
                  all_goals with_reducible rfl
                try simp only [Act.put, List.setIfInBounds_toArray, List.set_cons_zero, List.set_cons_succ]
                refine wpAnyH_take (i := 11) (oi := { dst := some 36, op := Go.Op.fieldAddr 53 (Go.Operand.tmp 35) 0, type := 0, pos := "bag.go:35", after := #[{ on := 10, ground := Go.Ground.data }, { on := 0, ground := Go.Ground.phase }, { on := 1, ground := Go.Ground.phase }, { on := 2, ground := Go.Ground.phase }, { on := 3, ground := Go.Ground.phase }, { on := 4, ground := Go.Ground.phase }, { on := 5, ground := Go.Ground.phase }, { on := 6, ground := Go.Ground.phase }, { on := 7, ground := Go.Ground.phase }, { on := 8, ground := Go.Ground.phase }, { on := 9, ground := Go.Ground.phase }], guard := none }) (v := ?_) rfl (by kernel_rfl) (by kernel_rfl) (by kernel_rfl) (fun _ _ _ h => h) (Or.inl ⟨by rfl, ?_⟩) (by assumption) ?_
                rotate_left
                · intro w hSw
                  try dsimp only at hSw
                  go_simp
                  all_goals with_reducible rfl
                try simp only [Act.put, List.setIfInBounds_toArray, List.set_cons_zero, List.set_cons_succ]
                refine wpAnyH_ready (rs := [12]) (by kernel_rfl) (by simp) ?_
                refine AllReadyH.cons (o := { dst := none, op := Go.Op.store 51 (Go.Operand.tmp 36) (Go.Operand.tmp 34), type := 0, pos := "bag.go:35", after := #[{ on := 11, ground := Go.Ground.data }, { on := 9, ground := Go.Ground.data }, { on := 9, ground := Go.Ground.chain }, { on := 0, ground := Go.Ground.phase }, { on := 1, ground := Go.Ground.phase }, { on := 2, ground := Go.Ground.phase }, { on := 3, ground := Go.Ground.phase }, { on := 4, ground := Go.Ground.phase }, { on := 5, ground := Go.Ground.phase }, { on := 6, ground := Go.Ground.phase }, { on := 7, ground := Go.Ground.phase }, { on := 8, ground := Go.Ground.phase }, { on := 9, ground := Go.Ground.phase }], guard := none }) rfl (fun K hK => ?_) ?_
                · go_simp
                  refine hK.out _ _ ?_ (fun hH => ?_)
                  · exact (Nat.zero_le _)
                  clear hK K
                  try simp only [Act.put, List.setIfInBounds_toArray, List.set_cons_zero, List.set_cons_succ]
                  refine wpAnyH_done (by kernel_rfl) ?_ _
                  clear hrun ck8 fk8
                  go_wp2
                  go_roundw
                  case rel => exact ⟨k + 1, by omega, by go_num, ⟨_, by rw [HTM.out]; exact HFIN.out.2.1⟩, HBW.out.trans (BkW.of HBK.out HFIN.out.2.2)⟩
                  case measure => simp [intOf]; omega
                exact AllReadyH.nil
              exact AllReadyH.nil
            exact AllReadyH.nil
          exact AllReadyH.nil
        exact AllReadyH.nil
      exact AllReadyH.nil
    · obtain rfl : k = N := by omega
      have HBK := Lib.hid hbk
      have HBW := Lib.hid hbw
      clear hbk hbw c0
      go_wp2
      go_ret
      exact ⟨rfl, ⟨_, HBK.out⟩, HBW.out⟩
end
end Go.Proofs.Ytjnjpphbclepbaa
