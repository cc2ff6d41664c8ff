/- The document's feed. -/
import Derived.Test.YtjmkdgjdemndaaaDoorD3
namespace Go.Proofs.YtjmkdgjdemndaaaDoor
open Go Go.RowKit
set_option maxRecDepth 20000
/-- The document's row, as its own Pump reads it. -/
theorem Cx.open2 {B : Nat} {w : World} {d : Nat} {G : Nat → Prop} {c : Int} {M : List Cr} (h : Cx 78 Pd B w d G c M) : ∃ a cp rs, w.cell? ⟨d, 1, none⟩ = some (.slice a M.length cp) ∧ IsRs w a M.length rs ∧ rs.map kR = M ∧ ∀ W : World, (∀ k, G k → W.heap[k]? = w.heap[k]?) → W.cell? ⟨d, 1, none⟩ = some (.slice a M.length cp) ∧ IsRs W a M.length rs := by
  obtain ⟨cs, v, S, rs, hj, hp, he, _, _, _, _, rfl⟩ := h
  obtain ⟨a, cp, rfl, hx, _⟩ := hj.is
  have hl : rs.length = M.length := by rw [← he, List.length_map]
  have hp2 := hp.2.2
  have hx2 := hx
  rw [hl] at hx2 hp2
  refine ⟨a, cp, rs, hj.c 1 _ hp2, hx2, he, fun W hW => ⟨(hj.keep hW).c 1 _ hp2, ?_⟩⟩
  obtain ⟨a', c', e, hy, _⟩ := (hj.keep hW).is
  cases e
  rw [hl] at hy
  exact hy
section
variable {w0 w w' : World} {db : Nat} {G : Nat → Prop} {c : Int} {M : List Cr} {d ds dr : Nat} {D : K.En} {gb q : Nat}
theorem Dj.d1 (h : Dj w0 w db G c M d ds dr D gb q) : w.cell? ⟨d, 1, none⟩ = some (.pointer (some ⟨ds, 0, none⟩)) := by
  obtain ⟨u, u2, pre, pre2, hx⟩ := h.lk
  exact hx.blk.c1
/-- A call on the document's link alone. -/
theorem Dj.onD {u u2 u' u2' : Value} {pre pre2 pre' pre2' : List ByteArray} {ds' dr' : Nat} {D' : K.En} {P' : Nat → Prop} (h : Dj w0 w db G c M d ds dr D gb q) (hx : K.Dx w0.heap.size w d ds u dr u2 pre pre2 D) (hx' : K.Dx w0.heap.size w' d ds' u' dr' u2' pre' pre2' D') (hf : K.Lf w w' (K.dft d ds dr) P') : Dj w0 w' db G c M d ds' dr' D' gb q ∧ OthD w w' := by
  have ho := OthD.ofD hx hf
  refine ⟨⟨hf.belD hx h.bel h.bel.size, h.lg.keep fun k hk => ?_, ⟨u', u2', pre', pre2', hx'⟩, h.fd.same (hf.block gb h.fd.lt (hx.other h.fd (by decide) (by decide) (by decide))), h.glo⟩, ho⟩
  obtain ⟨cur, t, fr, hc, ht⟩ := h.lg.typ k hk
  refine ho k cur t fr hc ?_ ?_ ?_ ?_ <;> (rcases ht with rfl | rfl | rfl <;> decide)
theorem Dj.off (h : Dj w0 w db G c M d ds dr D gb q) (x : ByteArray) (hx : x.size ≤ 1000) {e : Int} (he : D.offe = e) (hb : D.k + D.ds.length ≤ 10000) :
    Calls Tryd.prog 37 #[.pointer (some ⟨ds, 0, none⟩), .string x] w fun r w' => (∃ n, r = .returned (.tuple #[.int .i64 n, .int .i64 e])) ∧ Dj w0 w' db G c M d ds dr (D.off x) gb q ∧ OthD w w' := by
  subst he
  obtain ⟨u, u2, pre, pre2, h2⟩ := h.lk
  have hk := h2.kk
  refine (K.doff_any x hx (by rw [hk]; exact hb) w h2.sn).mono ?_
  rintro e w1 ⟨rfl, v', hs, hg, _⟩
  obtain ⟨hd, hf⟩ := h2.onS hs hg
  rw [hk] at hd ⊢
  obtain ⟨h3, h4⟩ := h.onD h2 hd hf
  exact ⟨⟨_, rfl⟩, h3, h4⟩
theorem Dj.put (h : Dj w0 w db G c M d ds dr D gb q) (p : Nat) : Dj w0 (w.setCell ⟨gb, 0, none⟩ (.int .i64 (p : Int))) db G c M d ds dr D gb p := by
  obtain ⟨u, u2, pre, pre2, hx⟩ := h.lk
  have hne : ∀ k, k ≠ gb → (w.setCell ⟨gb, 0, none⟩ (.int .i64 (p : Int))).heap[k]? = w.heap[k]? := fun k hk => Below.heap_setCell _ _ _ _ hk
  refine ⟨h.bel.setCell h.glo _, h.lg.keep fun k hk => hne k fun e => ?_, ⟨u, u2, pre, pre2, hx.same fun j hj => hne j fun e => ?_⟩, h.fd.set _, h.glo⟩
  · subst e
    exact h.lg.no h.fd (by decide) (by decide) (by decide) hk
  · subst e
    obtain ⟨cur, t, fr, hc, ht⟩ := hx.fty _ hj
    have h1 := h.fd
    unfold Fc at h1
    rw [hc] at h1
    injection h1 with h1
    injection h1 with _ h1 _
    subst h1
    revert ht
    decide
theorem dj_hear {f : K.Fra} {D' : K.En} {an : Bool} (hE : D.hear f = D') (ha : D.anew f = an) (hx : f.2.2.2.size ≤ 1000) (hq : D.q + D.ps.length ≤ 10000) (hok : K.okF f) (w : World) (h : Dj w0 w db G c M d ds dr D gb q) :
    Calls Tryd.prog 17 #[.pointer (some ⟨d, 0, none⟩), K.fv f] w fun e w' => e = .returned (.bool an) ∧ (∃ ds' dr', Dj w0 w' db G c M d ds' dr' D' gb q) ∧ OthD w w' := by
  subst hE ha
  obtain ⟨u, u2, pre, pre2, h2⟩ := h.lk
  obtain ⟨k1, k2, k3, k4, _, _⟩ := hok
  have hqq := h2.qq
  refine (K.dlhear_any hx (by rw [hqq]; exact hq) k1 k2 k3 (by omega) w h2).mono ?_
  rintro e w1 ⟨rfl, bs', v', br', v2', pre', pre2', hd, hf⟩
  obtain ⟨h3, h4⟩ := h.onD h2 hd hf
  exact ⟨rfl, ⟨bs', br', h3⟩, h4⟩
theorem dj_frames {n : Nat} {X : List K.Fra} (hX : D.frames = X) (hn : X.length = n) (hk : D.k ≤ 10000) (w : World) (h : Dj w0 w db G c M d ds dr D gb q) :
    Calls Tryd.prog 24 #[.pointer (some ⟨d, 0, none⟩)] w fun e w' => ∃ a x, e = .returned (.slice a n x) ∧ K.RowF w.heap.size w' (.slice a n x) X ∧ Below w.heap.size w w' := by
  subst hX hn
  obtain ⟨u, u2, pre, pre2, h2⟩ := h.lk
  exact K.dlframes_any (by rw [h2.kk]; exact hk) w h2
set_option maxHeartbeats 8000000 in
theorem dpump_any {D' : K.En} {n : Nat} (hE : pumpE D (M.drop q) = D') (hn : pumpN D (M.drop q) = n) (hql : q ≤ M.length) (hM : M.length ≤ 1000) (hb : D.k + D.ds.length + M.length ≤ 10000) (w : World) (h : Dj w0 w db G c M d ds dr D gb q) :
    Calls Tryd.prog 15 #[.pointer (some ⟨gb, 0, none⟩), .pointer (some ⟨db, 0, none⟩), .pointer (some ⟨d, 0, none⟩)] w fun e w' => e = .returned (.int .i64 (n : Int)) ∧ Dj w0 w' db G c M d ds dr D' gb (q + n) ∧ OthD w w' := by
  have H := Lib.hid h
  have HE := Lib.hid hE
  have HN := Lib.hid hn
  clear h hE hn
  go_enter Tryd.func15, Tryd.ntmps15
  go_wp2_with fail
  go_loopw [7] (fun v7 wr => ∃ (j : Nat) (Dk : K.En), v7 = .int .i64 (j : Int) ∧ q + j ≤ M.length ∧ Dj w0 wr db G c M d ds dr Dk gb (q + j) ∧ OthD w wr ∧ pumpE Dk (M.drop (q + j)) = D' ∧ pumpN Dk (M.drop (q + j)) + j = n ∧ Dk.k + Dk.ds.length ≤ D.k + D.ds.length + j) (fun v7 _ => M.length - (intOf v7).toNat)
  case atStart => exact ⟨0, D, rfl, hql, H.out, .ofBelow (Below.refl _ _), HE.out, HN.out, Nat.le_refl _⟩
  case round =>
    obtain ⟨j, Dk, rfl, hj, hd, ho, he, hn, hbk⟩ := hrel
    clear H HE HN
    obtain ⟨pj, hpj⟩ : ∃ x, q + j = x := ⟨_, rfl⟩
    have hjj : j ≤ pj := by omega
    rw [hpj] at hj hd he hn
    have HPJ := Lib.hid hpj
    obtain ⟨ml, hml⟩ : ∃ x, M.length = x := ⟨_, rfl⟩
    obtain ⟨a, cp, rs, z1, hir, hmap, hkeep⟩ := hd.lg.open2
    have z0 := hd.fd.c0
    have z2 := hd.d1
    have hgood := hd.lg.good
    rw [hml] at z1 hir hkeep hj
    have HML := Lib.hid hml
    have hml1000 : ml ≤ 1000 := by omega
    have HJ := Lib.hid hd
    have HO := Lib.hid ho
    have HPE := Lib.hid he
    have HPN := Lib.hid hn
    clear hd ho he hn hpj hml
    by_cases h1 : pj < ml
    · have q1 : decide ((pj : Int) < (ml : Int)) = true := decide_eq_true (by omega)
      obtain ⟨rb, off, e1, x0, x1, x2, hru⟩ := rcells_of hir (Below.refl _ _) h1
      subst e1
      have hkr : kR (rs.getD pj rn0) = M.getD pj kr0 := by rw [← map_getD, hmap]
      have hmay := (hgood.each _ (show M.getD pj kr0 ∈ M by rw [List.getD_eq_getElem?_getD, List.getElem?_eq_getElem (by rw [HML.out]; exact h1)]; exact List.getElem_mem _)).1
      have hkeep2 : ∀ W : World, (∀ k, G k → W.heap[k]? = wr.heap[k]?) → W.cell? ⟨db, 1, none⟩ = some (.slice (some ⟨rb, off, none⟩) ml cp) ∧ W.cell? ⟨rb, off + pj * 3, none⟩ = some (.int .i64 (rs.getD pj rn0).o) ∧ W.cell? ⟨rb, off + pj * 3 + 1, none⟩ = some (.int .i64 (rs.getD pj rn0).n) ∧ W.cell? ⟨rb, off + pj * 3 + 2, none⟩ = some (.slice (rs.getD pj rn0).a (rs.getD pj rn0).len (rs.getD pj rn0).cap) := fun W hW => by
        obtain ⟨y1, y2⟩ := hkeep W hW
        obtain ⟨rb', off', e1, x0, x1, x2, _⟩ := rcells_of y2 (Below.refl _ _) h1
        cases e1
        exact ⟨y1, x0, x1, x2⟩
      rw [← hkr] at hmay
      obtain ⟨oe, hoe⟩ : ∃ o, Dk.offe = o := ⟨_, rfl⟩
      obtain ⟨px, hpx⟩ : ∃ x, pxC (M.getD pj kr0) = x := ⟨_, rfl⟩
      have hpx2 := hpx
      rw [← hkr] at hpx2
      generalize rs.getD pj rn0 = r at *
      obtain ⟨ro, rn, ra, rl, rc, rus⟩ := r
      simp only at x0 x1 x2 hkeep2 hru
      have hmay2 : mayR ro rn rus = 0 := hmay
      have hpx3 : pxC (ro, rn, rus) = px := hpx2
      have hbd : Dk.k + Dk.ds.length ≤ 10000 := by have := HML.out; omega
      have HMAY := Lib.hid hmay2
      have HX : Hid ((pxC (ro, rn, rus)).size ≤ 1000) := Lib.hid (pxC_size (r := (ro, rn, rus)) hmay2)
      have HPX := Lib.hid hpx
      have HPX3 := Lib.hid hpx3
      have HKEEP := Lib.hid hkeep2
      have HU := Lib.hid hru.1
      have HOE := Lib.hid hoe
      have HBD := Lib.hid hbd
      have HBK := Lib.hid hbk
      clear hir hmap hkeep hkeep2 hru hkr hmay hmay2 hpx hpx2 hpx3 hoe hbd hbk hgood
      by_cases h0 : oe = 0
      · have k0 : (oe != 0) = false := by rw [bne_eq_false_iff_eq]; exact h0
        obtain ⟨s1, s2⟩ := pump_step (L := M) (p := pj) (by rw [HML.out]; exact h1) (HOE.out.trans h0)
        rw [HPX.out] at s1 s2
        have hof := (off_ok (HOE.out.trans h0) px).1
        have hbk2 : (Dk.off px).k + (Dk.off px).ds.length ≤ D.k + D.ds.length + (j + 1) := by
          rw [hof]
          have := HBK.out
          simp only [List.length_append, List.length_singleton]
          omega
        have HBK2 := Lib.hid hbk2
        have HS1 := Lib.hid s1
        have HS2 := Lib.hid s2
        clear s1 s2 hof hbk2
        go_wp2_with fail
        refine wp_region_held_drew (S := fun w' => w'.cell? ⟨gb, 0, none⟩ = some (.int .i64 (pj : Int)) ∧ w'.cell? ⟨db, 1, none⟩ = some (.slice (some ⟨rb, off, none⟩) ml cp)) (by kernel_rfl) ?_ (fun hH => ?_)
        · exact ⟨z0, z1⟩
        refine wpAnyH_take (i := 0) (oi := { dst := some 10, op := Go.Op.move (Go.Operand.tmp 0), type := 34, pos := "ref.go:16", after := #[], guard := none }) (v := ?_) rfl (by kernel_rfl) (by kernel_rfl) (by kernel_rfl) (fun _ _ _ h => h) (Or.inl ⟨by rfl, ?_⟩) (by assumption) ?_
        rotate_left
        · intro w hSw
          try dsimp only at hSw
          obtain ⟨q0, q1⟩ := hSw
          go_simp
          all_goals with_reducible rfl
        try simp only [Act.put, List.setIfInBounds_toArray, List.set_cons_zero, List.set_cons_succ]
        refine wpAnyH_take (i := 1) (oi := { dst := some 11, op := Go.Op.nilCheck (Go.Operand.tmp 10), type := 0, pos := "ref.go:16", after := #[{ on := 0, ground := Go.Ground.data }], guard := none }) (v := ?_) rfl (by kernel_rfl) (by kernel_rfl) (by kernel_rfl) (fun _ _ _ h => h) (Or.inl ⟨by rfl, ?_⟩) (by assumption) ?_
        rotate_left
        · intro w hSw
          try dsimp only at hSw
          obtain ⟨q0, q1⟩ := hSw
          go_simp
          all_goals with_reducible rfl
        try simp only [Act.put, List.setIfInBounds_toArray, List.set_cons_zero, List.set_cons_succ]
        refine wpAnyH_take (i := 2) (oi := { dst := some 12, op := Go.Op.fieldAddr 36 (Go.Operand.tmp 11) 0, type := 0, pos := "ref.go:16", after := #[{ on := 1, ground := Go.Ground.data }], guard := none }) (v := ?_) rfl (by kernel_rfl) (by kernel_rfl) (by kernel_rfl) (fun _ _ _ h => h) (Or.inl ⟨by rfl, ?_⟩) (by assumption) ?_
        rotate_left
        · intro w hSw
          try dsimp only at hSw
          obtain ⟨q0, q1⟩ := hSw
          go_simp
          all_goals with_reducible rfl
        try simp only [Act.put, List.setIfInBounds_toArray, List.set_cons_zero, List.set_cons_succ]
        refine wpAnyH_take (i := 3) (oi := { dst := some 13, op := Go.Op.load 3 (Go.Operand.tmp 12), type := 3, pos := "ref.go:16", after := #[{ on := 2, ground := Go.Ground.data }], guard := none }) (v := ?_) rfl (by kernel_rfl) (by kernel_rfl) (by kernel_rfl) (fun _ _ _ h => h) (Or.inl ⟨by rfl, ?_⟩) (by assumption) ?_
        rotate_left
        · intro w hSw
          try dsimp only at hSw
          obtain ⟨q0, q1⟩ := hSw
          go_simp
          all_goals with_reducible rfl
        try simp only [Act.put, List.setIfInBounds_toArray, List.set_cons_zero, List.set_cons_succ]
        refine wpAnyH_take (i := 4) (oi := { dst := some 14, op := Go.Op.move (Go.Operand.tmp 1), type := 30, pos := "ref.go:16", after := #[], guard := none }) (v := ?_) rfl (by kernel_rfl) (by kernel_rfl) (by kernel_rfl) (fun _ _ _ h => h) (Or.inl ⟨by rfl, ?_⟩) (by assumption) ?_
        rotate_left
        · intro w hSw
          try dsimp only at hSw
          obtain ⟨q0, q1⟩ := hSw
          go_simp
          all_goals with_reducible rfl
        try simp only [Act.put, List.setIfInBounds_toArray, List.set_cons_zero, List.set_cons_succ]
        refine wpAnyH_take (i := 5) (oi := { dst := some 15, op := Go.Op.nilCheck (Go.Operand.tmp 14), type := 0, pos := "ref.go:16", after := #[{ on := 4, ground := Go.Ground.data }], guard := none }) (v := ?_) rfl (by kernel_rfl) (by kernel_rfl) (by kernel_rfl) (fun _ _ _ h => h) (Or.inl ⟨by rfl, ?_⟩) (by assumption) ?_
        rotate_left
        · intro w hSw
          try dsimp only at hSw
          obtain ⟨q0, q1⟩ := hSw
          go_simp
          all_goals with_reducible rfl
        try simp only [Act.put, List.setIfInBounds_toArray, List.set_cons_zero, List.set_cons_succ]
        refine wpAnyH_take (i := 6) (oi := { dst := some 16, op := Go.Op.fieldAddr 78 (Go.Operand.tmp 15) 1, type := 0, pos := "ref.go:16", after := #[{ on := 5, ground := Go.Ground.data }], guard := none }) (v := ?_) rfl (by kernel_rfl) (by kernel_rfl) (by kernel_rfl) (fun _ _ _ h => h) (Or.inl ⟨by rfl, ?_⟩) (by assumption) ?_
        rotate_left
        · intro w hSw
          try dsimp only at hSw
          obtain ⟨q0, q1⟩ := hSw
          go_simp
          all_goals with_reducible rfl
        try simp only [Act.put, List.setIfInBounds_toArray, List.set_cons_zero, List.set_cons_succ]
        refine wpAnyH_take (i := 7) (oi := { dst := some 17, op := Go.Op.load 57 (Go.Operand.tmp 16), type := 57, pos := "ref.go:16", after := #[{ on := 6, ground := Go.Ground.data }], guard := none }) (v := ?_) rfl (by kernel_rfl) (by kernel_rfl) (by kernel_rfl) (fun _ _ _ h => h) (Or.inl ⟨by rfl, ?_⟩) (by assumption) ?_
        rotate_left
        · intro w hSw
          try dsimp only at hSw
          obtain ⟨q0, q1⟩ := hSw
          go_simp
          all_goals with_reducible rfl
        try simp only [Act.put, List.setIfInBounds_toArray, List.set_cons_zero, List.set_cons_succ]
        refine wpAnyH_take (i := 8) (oi := { dst := some 18, op := Go.Op.call { callee := Go.Callee.builtin Go.Builtin.len, args := #[Go.Operand.tmp 17], argTypes := #[57] }, type := 3, pos := "ref.go:16", after := #[{ on := 7, ground := Go.Ground.data }], guard := none }) (v := ?_) rfl (by kernel_rfl) (by kernel_rfl) (by kernel_rfl) (fun _ _ _ h => h) (Or.inl ⟨by rfl, ?_⟩) (by assumption) ?_
        rotate_left
        · intro w hSw
          try dsimp only at hSw
          obtain ⟨q0, q1⟩ := hSw
          go_simp
          all_goals with_reducible rfl
        try simp only [Act.put, List.setIfInBounds_toArray, List.set_cons_zero, List.set_cons_succ]
        refine wpAnyH_take (i := 9) (oi := { dst := some 19, op := Go.Op.binOp Go.BinOp.lss 3 (Go.Operand.tmp 13) (Go.Operand.tmp 18) 3, type := 4, pos := "ref.go:16", after := #[{ on := 3, ground := Go.Ground.data }, { on := 8, ground := Go.Ground.data }], guard := none }) (v := ?_) rfl (by kernel_rfl) (by kernel_rfl) (by kernel_rfl) (fun _ _ _ h => h) (Or.inl ⟨by rfl, ?_⟩) (by assumption) ?_
        rotate_left
        · intro w hSw
          try dsimp only at hSw
          obtain ⟨q0, q1⟩ := hSw
          go_simp
          all_goals with_reducible rfl
        try simp only [Act.put, List.setIfInBounds_toArray, List.set_cons_zero, List.set_cons_succ]
        refine wpAnyH_done (by kernel_rfl) ?_ _
        go_wp2_with fail
        refine wp_region_held_drew (S := fun w' => (w'.cell? ⟨gb, 0, none⟩ = some (.int .i64 (pj : Int)) ∧ w'.cell? ⟨db, 1, none⟩ = some (.slice (some ⟨rb, off, none⟩) ml cp) ∧ w'.cell? ⟨d, 1, none⟩ = some (.pointer (some ⟨ds, 0, none⟩))) ∧ w'.cell? ⟨rb, off + pj * 3, none⟩ = some (.int .i64 ro) ∧ w'.cell? ⟨rb, off + pj * 3 + 1, none⟩ = some (.int .i64 rn) ∧ w'.cell? ⟨rb, off + pj * 3 + 2, none⟩ = some (.slice ra rl rc)) (by kernel_rfl) ?_ (fun hH => ?_)
        · exact ⟨⟨z0, z1, z2⟩, x0, x1, x2⟩
        refine wpAnyH_take (i := 0) (oi := { dst := some 21, op := Go.Op.move (Go.Operand.tmp 2), type := 32, pos := "ref.go:17", after := #[], guard := none }) (v := ?_) rfl (by kernel_rfl) (by kernel_rfl) (by kernel_rfl) (fun _ _ _ h => h) (Or.inl ⟨by rfl, ?_⟩) (by assumption) ?_
        rotate_left
        · intro w hSw
          try dsimp only at hSw
          obtain ⟨⟨q0, q1, q2⟩, q3, q4, q5⟩ := hSw
          go_simp
          all_goals with_reducible rfl
        try simp only [Act.put, List.setIfInBounds_toArray, List.set_cons_zero, List.set_cons_succ]
        refine wpAnyH_take (i := 1) (oi := { dst := some 22, op := Go.Op.nilCheck (Go.Operand.tmp 21), type := 0, pos := "ref.go:17", after := #[{ on := 0, ground := Go.Ground.data }], guard := none }) (v := ?_) rfl (by kernel_rfl) (by kernel_rfl) (by kernel_rfl) (fun _ _ _ h => h) (Or.inl ⟨by rfl, ?_⟩) (by assumption) ?_
        rotate_left
        · intro w hSw
          try dsimp only at hSw
          obtain ⟨⟨q0, q1, q2⟩, q3, q4, q5⟩ := hSw
          go_simp
          all_goals with_reducible rfl
        try simp only [Act.put, List.setIfInBounds_toArray, List.set_cons_zero, List.set_cons_succ]
        refine wpAnyH_take (i := 2) (oi := { dst := some 23, op := Go.Op.fieldAddr 82 (Go.Operand.tmp 22) 1, type := 0, pos := "ref.go:17", after := #[{ on := 1, ground := Go.Ground.data }], guard := none }) (v := ?_) rfl (by kernel_rfl) (by kernel_rfl) (by kernel_rfl) (fun _ _ _ h => h) (Or.inl ⟨by rfl, ?_⟩) (by assumption) ?_
        rotate_left
        · intro w hSw
          try dsimp only at hSw
          obtain ⟨⟨q0, q1, q2⟩, q3, q4, q5⟩ := hSw
          go_simp
          all_goals with_reducible rfl
        try simp only [Act.put, List.setIfInBounds_toArray, List.set_cons_zero, List.set_cons_succ]
        refine wpAnyH_take (i := 3) (oi := { dst := some 24, op := Go.Op.load 79 (Go.Operand.tmp 23), type := 79, pos := "ref.go:17", after := #[{ on := 2, ground := Go.Ground.data }], guard := none }) (v := ?_) rfl (by kernel_rfl) (by kernel_rfl) (by kernel_rfl) (fun _ _ _ h => h) (Or.inl ⟨by rfl, ?_⟩) (by assumption) ?_
        rotate_left
        · intro w hSw
          try dsimp only at hSw
          obtain ⟨⟨q0, q1, q2⟩, q3, q4, q5⟩ := hSw
          go_simp
          all_goals with_reducible rfl
        try simp only [Act.put, List.setIfInBounds_toArray, List.set_cons_zero, List.set_cons_succ]
        refine wpAnyH_take (i := 4) (oi := { dst := some 25, op := Go.Op.move (Go.Operand.tmp 1), type := 30, pos := "ref.go:17", after := #[], guard := none }) (v := ?_) rfl (by kernel_rfl) (by kernel_rfl) (by kernel_rfl) (fun _ _ _ h => h) (Or.inl ⟨by rfl, ?_⟩) (by assumption) ?_
        rotate_left
        · intro w hSw
          try dsimp only at hSw
          obtain ⟨⟨q0, q1, q2⟩, q3, q4, q5⟩ := hSw
          go_simp
          all_goals with_reducible rfl
        try simp only [Act.put, List.setIfInBounds_toArray, List.set_cons_zero, List.set_cons_succ]
        refine wpAnyH_take (i := 5) (oi := { dst := some 26, op := Go.Op.nilCheck (Go.Operand.tmp 25), type := 0, pos := "ref.go:17", after := #[{ on := 4, ground := Go.Ground.data }], guard := none }) (v := ?_) rfl (by kernel_rfl) (by kernel_rfl) (by kernel_rfl) (fun _ _ _ h => h) (Or.inl ⟨by rfl, ?_⟩) (by assumption) ?_
        rotate_left
        · intro w hSw
          try dsimp only at hSw
          obtain ⟨⟨q0, q1, q2⟩, q3, q4, q5⟩ := hSw
          go_simp
          all_goals with_reducible rfl
        try simp only [Act.put, List.setIfInBounds_toArray, List.set_cons_zero, List.set_cons_succ]
        refine wpAnyH_take (i := 6) (oi := { dst := some 27, op := Go.Op.fieldAddr 78 (Go.Operand.tmp 26) 1, type := 0, pos := "ref.go:17", after := #[{ on := 5, ground := Go.Ground.data }], guard := none }) (v := ?_) rfl (by kernel_rfl) (by kernel_rfl) (by kernel_rfl) (fun _ _ _ h => h) (Or.inl ⟨by rfl, ?_⟩) (by assumption) ?_
        rotate_left
        · intro w hSw
          try dsimp only at hSw
          obtain ⟨⟨q0, q1, q2⟩, q3, q4, q5⟩ := hSw
          go_simp
          all_goals with_reducible rfl
        try simp only [Act.put, List.setIfInBounds_toArray, List.set_cons_zero, List.set_cons_succ]
        refine wpAnyH_take (i := 7) (oi := { dst := some 28, op := Go.Op.load 57 (Go.Operand.tmp 27), type := 57, pos := "ref.go:17", after := #[{ on := 6, ground := Go.Ground.data }], guard := none }) (v := ?_) rfl (by kernel_rfl) (by kernel_rfl) (by kernel_rfl) (fun _ _ _ h => h) (Or.inl ⟨by rfl, ?_⟩) (by assumption) ?_
        rotate_left
        · intro w hSw
          try dsimp only at hSw
          obtain ⟨⟨q0, q1, q2⟩, q3, q4, q5⟩ := hSw
          go_simp
          all_goals with_reducible rfl
        try simp only [Act.put, List.setIfInBounds_toArray, List.set_cons_zero, List.set_cons_succ]
        refine wpAnyH_take (i := 8) (oi := { dst := some 29, op := Go.Op.move (Go.Operand.tmp 0), type := 34, pos := "ref.go:17", after := #[], guard := none }) (v := ?_) rfl (by kernel_rfl) (by kernel_rfl) (by kernel_rfl) (fun _ _ _ h => h) (Or.inl ⟨by rfl, ?_⟩) (by assumption) ?_
        rotate_left
        · intro w hSw
          try dsimp only at hSw
          obtain ⟨⟨q0, q1, q2⟩, q3, q4, q5⟩ := hSw
          go_simp
          all_goals with_reducible rfl
        try simp only [Act.put, List.setIfInBounds_toArray, List.set_cons_zero, List.set_cons_succ]
        refine wpAnyH_take (i := 9) (oi := { dst := some 30, op := Go.Op.nilCheck (Go.Operand.tmp 29), type := 0, pos := "ref.go:17", after := #[{ on := 8, ground := Go.Ground.data }], guard := none }) (v := ?_) rfl (by kernel_rfl) (by kernel_rfl) (by kernel_rfl) (fun _ _ _ h => h) (Or.inl ⟨by rfl, ?_⟩) (by assumption) ?_
        rotate_left
        · intro w hSw
          try dsimp only at hSw
          obtain ⟨⟨q0, q1, q2⟩, q3, q4, q5⟩ := hSw
          go_simp
          all_goals with_reducible rfl
        try simp only [Act.put, List.setIfInBounds_toArray, List.set_cons_zero, List.set_cons_succ]
        refine wpAnyH_take (i := 10) (oi := { dst := some 31, op := Go.Op.fieldAddr 36 (Go.Operand.tmp 30) 0, type := 0, pos := "ref.go:17", after := #[{ on := 9, ground := Go.Ground.data }], guard := none }) (v := ?_) rfl (by kernel_rfl) (by kernel_rfl) (by kernel_rfl) (fun _ _ _ h => h) (Or.inl ⟨by rfl, ?_⟩) (by assumption) ?_
        rotate_left
        · intro w hSw
          try dsimp only at hSw
          obtain ⟨⟨q0, q1, q2⟩, q3, q4, q5⟩ := hSw
          go_simp
          all_goals with_reducible rfl
        try simp only [Act.put, List.setIfInBounds_toArray, List.set_cons_zero, List.set_cons_succ]
        refine wpAnyH_take (i := 11) (oi := { dst := some 32, op := Go.Op.load 3 (Go.Operand.tmp 31), type := 3, pos := "ref.go:17", after := #[{ on := 10, ground := Go.Ground.data }], guard := none }) (v := ?_) rfl (by kernel_rfl) (by kernel_rfl) (by kernel_rfl) (fun _ _ _ h => h) (Or.inl ⟨by rfl, ?_⟩) (by assumption) ?_
        rotate_left
        · intro w hSw
          try dsimp only at hSw
          obtain ⟨⟨q0, q1, q2⟩, q3, q4, q5⟩ := hSw
          go_simp
          all_goals with_reducible rfl
        try simp only [Act.put, List.setIfInBounds_toArray, List.set_cons_zero, List.set_cons_succ]
        refine wpAnyH_take (i := 12) (oi := { dst := some 33, op := Go.Op.indexAddr 57 (Go.Operand.tmp 28) (Go.Operand.tmp 32), type := 0, pos := "ref.go:17", after := #[{ on := 7, ground := Go.Ground.data }, { on := 11, ground := Go.Ground.data }], guard := none }) (v := ?_) rfl (by kernel_rfl) (by kernel_rfl) (by kernel_rfl) (fun _ _ _ h => h) (Or.inl ⟨by rfl, ?_⟩) (by assumption) ?_
        rotate_left
        · intro w hSw
          try dsimp only at hSw
          obtain ⟨⟨q0, q1, q2⟩, q3, q4, q5⟩ := hSw
          go_simp
          all_goals with_reducible rfl
        try simp only [Act.put, List.setIfInBounds_toArray, List.set_cons_zero, List.set_cons_succ]
        refine wpAnyH_take (i := 13) (oi := { dst := some 34, op := Go.Op.load 43 (Go.Operand.tmp 33), type := 43, pos := "ref.go:17", after := #[{ on := 12, ground := Go.Ground.data }], guard := none }) (v := ?_) rfl (by kernel_rfl) (by kernel_rfl) (by kernel_rfl) (fun _ _ _ h => h) (Or.inl ⟨by rfl, ?_⟩) (by assumption) ?_
        rotate_left
        · intro w hSw
          try dsimp only at hSw
          obtain ⟨⟨q0, q1, q2⟩, q3, q4, q5⟩ := hSw
          go_simp
          all_goals with_reducible rfl
        try simp only [Act.put, List.setIfInBounds_toArray, List.set_cons_zero, List.set_cons_succ]
        refine wpAnyH_ready (rs := [14]) (by kernel_rfl) (by simp) ?_
        refine AllReadyH.cons (o := { dst := some 35, op := Go.Op.call { callee := Go.Callee.value (Go.Operand.func 33), args := #[Go.Operand.tmp 34], argTypes := #[43] }, type := 9, pos := "ref.go:17", after := #[{ on := 13, ground := Go.Ground.data }], guard := none }) rfl (fun K hK => ?_) ?_
        · go_simp
          refine (X.docbytes ro rn ra rl rc rus HMAY.out wr.drew.drew (isUs_same HU.out fun _ _ _ => rfl)).mono ?_
          rintro e y1 ⟨rfl, hb⟩
          have hb1 : Below wr.heap.size wr y1 := ⟨hb.os, hb.tape, hb.output, hb.size, hb.block⟩
          have HB1 := Lib.hid hb1
          have g1 := HJ.out.next hb1
          obtain ⟨m1, m2⟩ := HKEEP.out y1 (fun k hk => hb1.block k (HJ.out.lg.foot k hk).2)
          have m0 := g1.fd.c0
          have m3 := g1.d1
          have H1 := Lib.hid g1
          have HOF := Lib.hid (g1.off (pxC (ro, rn, rus)) HX.out HOE.out HBD.out)
          have HO1 := Lib.hid (HO.out.trans (OthD.ofBelow hb1))
          clear hb hb1 g1
          go_wp2_with fail
          refine hK.out _ _ ?_ (fun hH => ?_)
          · exact ⟨⟨m0, m1, m3⟩, m2.1, m2.2.1, m2.2.2⟩
          clear hK K
          try simp only [Act.put, List.setIfInBounds_toArray, List.set_cons_zero, List.set_cons_succ]
          refine wpAnyH_ready (rs := [15]) (by kernel_rfl) (by simp) ?_
          refine AllReadyH.cons (o := { dst := some 36, op := Go.Op.call { callee := Go.Callee.value (Go.Operand.func 37), args := #[Go.Operand.tmp 24, Go.Operand.tmp 35], argTypes := #[79, 9] }, type := 88, pos := "ref.go:17", after := #[{ on := 3, ground := Go.Ground.data }, { on := 14, ground := Go.Ground.data }, { on := 14, ground := Go.Ground.chain }], guard := none }) rfl (fun K hK => ?_) ?_
          · go_simp
            refine HOF.out.mono ?_
            rintro e y2 ⟨⟨nn, rfl⟩, h2, ho2⟩
            obtain ⟨n1, n2⟩ := HKEEP.out y2 (fun k hk => by
              obtain ⟨cur, t, fr, hc, ht⟩ := H1.out.lg.typ k hk
              refine (ho2 k cur t fr hc ?_ ?_ ?_ ?_).trans (HB1.out.block k (HJ.out.lg.foot k hk).2) <;> (rcases ht with rfl | rfl | rfl <;> decide))
            have n0 := h2.fd.c0
            have n3 := h2.d1
            have H2 := Lib.hid h2
            have HO2 := Lib.hid (HO1.out.trans ho2)
            clear h2 ho2
            go_wp2_with fail
            refine hK.out _ _ ?_ (fun hH => ?_)
            · exact ⟨⟨n0, n1, n3⟩, n2.1, n2.2.1, n2.2.2⟩
            clear hK K
            try simp only [Act.put, List.setIfInBounds_toArray, List.set_cons_zero, List.set_cons_succ]
            refine wpAnyH_take (i := 16) (oi := { dst := some 20, op := Go.Op.move (Go.Operand.tmp 36), type := 88, pos := "ref.go:17", after := #[{ on := 15, ground := Go.Ground.data }], guard := none }) (v := ?_) rfl (by kernel_rfl) (by kernel_rfl) (by kernel_rfl) (fun _ _ _ h => h) (Or.inl ⟨by rfl, ?_⟩) (by assumption) ?_
            rotate_left
            · intro w hSw
              try dsimp only at hSw
              obtain ⟨⟨q0, q1, q2⟩, q3, q4, q5⟩ := hSw
              go_simp
              all_goals with_reducible rfl
            try simp only [Act.put, List.setIfInBounds_toArray, List.set_cons_zero, List.set_cons_succ]
            refine wpAnyH_take (i := 17) (oi := { dst := some 37, op := Go.Op.extract (Go.Operand.tmp 20) 0, type := 3, pos := "ref.go:17", after := #[{ on := 16, ground := Go.Ground.data }], guard := none }) (v := ?_) rfl (by kernel_rfl) (by kernel_rfl) (by kernel_rfl) (fun _ _ _ h => h) (Or.inl ⟨by rfl, ?_⟩) (by assumption) ?_
            rotate_left
            · intro w hSw
              try dsimp only at hSw
              obtain ⟨⟨q0, q1, q2⟩, q3, q4, q5⟩ := hSw
              go_simp
              all_goals with_reducible rfl
            try simp only [Act.put, List.setIfInBounds_toArray, List.set_cons_zero, List.set_cons_succ]
            refine wpAnyH_take (i := 18) (oi := { dst := some 38, op := Go.Op.extract (Go.Operand.tmp 20) 1, type := 3, pos := "ref.go:17", after := #[{ on := 16, ground := Go.Ground.data }, { on := 19, ground := Go.Ground.gcOnly Go.Departure.lateStores }], guard := none }) (v := ?_) rfl (by kernel_rfl) (by kernel_rfl) (by kernel_rfl) (fun _ _ _ h => h) (Or.inl ⟨by rfl, ?_⟩) (by assumption) ?_
            rotate_left
            · intro w hSw
              try dsimp only at hSw
              obtain ⟨⟨q0, q1, q2⟩, q3, q4, q5⟩ := hSw
              go_simp
              all_goals with_reducible rfl
            try simp only [Act.put, List.setIfInBounds_toArray, List.set_cons_zero, List.set_cons_succ]
            refine wpAnyH_take (i := 19) (oi := { dst := some 8, op := Go.Op.assign (Go.Operand.tmp 37), type := 3, pos := "ref.go:17", after := #[{ on := 17, ground := Go.Ground.data }, { on := 15, ground := Go.Ground.chain }, { on := 0, ground := Go.Ground.phase }, { on := 1, ground := Go.Ground.phase }, { on := 2, ground := Go.Ground.phase }, { on := 3, ground := Go.Ground.phase }, { on := 4, ground := Go.Ground.phase }, { on := 5, ground := Go.Ground.phase }, { on := 6, ground := Go.Ground.phase }, { on := 7, ground := Go.Ground.phase }, { on := 8, ground := Go.Ground.phase }, { on := 9, ground := Go.Ground.phase }, { on := 10, ground := Go.Ground.phase }, { on := 11, ground := Go.Ground.phase }, { on := 12, ground := Go.Ground.phase }, { on := 13, ground := Go.Ground.phase }, { on := 14, ground := Go.Ground.phase }, { on := 15, ground := Go.Ground.phase }, { on := 16, ground := Go.Ground.phase }, { on := 17, ground := Go.Ground.phase }, { on := 18, ground := Go.Ground.textOnly Go.Departure.lateStores }], guard := none }) (v := ?_) rfl (by kernel_rfl) (by kernel_rfl) (by kernel_rfl) (fun _ _ _ h => h) (Or.inl ⟨by rfl, ?_⟩) (by assumption) ?_
            rotate_left
            · intro w hSw
              try dsimp only at hSw
              obtain ⟨⟨q0, q1, q2⟩, q3, q4, q5⟩ := hSw
              go_simp
              all_goals with_reducible rfl
            try simp only [Act.put, List.setIfInBounds_toArray, List.set_cons_zero, List.set_cons_succ]
            refine wpAnyH_take (i := 20) (oi := { dst := some 9, op := Go.Op.assign (Go.Operand.tmp 38), type := 3, pos := "ref.go:17", after := #[{ on := 18, ground := Go.Ground.data }, { on := 19, ground := Go.Ground.chain }, { on := 0, ground := Go.Ground.phase }, { on := 1, ground := Go.Ground.phase }, { on := 2, ground := Go.Ground.phase }, { on := 3, ground := Go.Ground.phase }, { on := 4, ground := Go.Ground.phase }, { on := 5, ground := Go.Ground.phase }, { on := 6, ground := Go.Ground.phase }, { on := 7, ground := Go.Ground.phase }, { on := 8, ground := Go.Ground.phase }, { on := 9, ground := Go.Ground.phase }, { on := 10, ground := Go.Ground.phase }, { on := 11, ground := Go.Ground.phase }, { on := 12, ground := Go.Ground.phase }, { on := 13, ground := Go.Ground.phase }, { on := 14, ground := Go.Ground.phase }, { on := 15, ground := Go.Ground.phase }, { on := 16, ground := Go.Ground.phase }, { on := 17, ground := Go.Ground.phase }, { on := 18, ground := Go.Ground.phase }, { on := 19, ground := Go.Ground.phase }], guard := none }) (v := ?_) rfl (by kernel_rfl) (by kernel_rfl) (by kernel_rfl) (fun _ _ _ h => h) (Or.inl ⟨by rfl, ?_⟩) (by assumption) ?_
            rotate_left
            · intro w hSw
              try dsimp only at hSw
              obtain ⟨⟨q0, q1, q2⟩, q3, q4, q5⟩ := hSw
              go_simp
              all_goals with_reducible rfl
            try simp only [Act.put, List.setIfInBounds_toArray, List.set_cons_zero, List.set_cons_succ]
            refine wpAnyH_done (by kernel_rfl) ?_ _
            rw [HPX3.out] at H2
            have f0 := H2.out.fd.f0 0
            have HO3 := Lib.hid (HO2.out.trans (.set H2.out.fd 0 (.int .i64 ((pj + 1 : Nat) : Int))))
            have H3 := Lib.hid (H2.out.put (pj + 1))
            clear z0 z1 z2 x0 x1 x2 m0 m1 m2 m3 n1 n2 n3
            go_wp2
            go_roundw
            case rel => exact ⟨j + 1, _, by go_num, by have := HPJ.out; have := HML.out; omega, by rw [show q + (j + 1) = pj + 1 by have := HPJ.out; omega]; exact H3.out, HO3.out, by rw [show q + (j + 1) = pj + 1 by have := HPJ.out; omega, ← HPE.out, HS1.out], by rw [show q + (j + 1) = pj + 1 by have := HPJ.out; omega, ← HPN.out, HS2.out]; omega, HBK2.out⟩
            case measure => have := HML.out; simp [intOf]; omega
          exact AllReadyH.nil
        exact AllReadyH.nil
      · have k0 : (oe != 0) = true := bne_iff_ne.2 h0
        have hne : Dk.offe ≠ 0 := by rw [HOE.out]; exact h0
        obtain ⟨s1, s2⟩ := pump_full (L := M) (p := pj) hne
        have hfull := off_full hne px
        rw [HPE.out] at s1
        rw [s2] at HPN
        have hnj : n = j := by have := HPN.out; omega
        subst hnj
        have HS1 := Lib.hid s1
        have HFULL := Lib.hid hfull
        clear hne s1 s2 hfull
        go_wp2_with fail
        refine wp_region_held_drew (S := fun w' => w'.cell? ⟨gb, 0, none⟩ = some (.int .i64 (pj : Int)) ∧ w'.cell? ⟨db, 1, none⟩ = some (.slice (some ⟨rb, off, none⟩) ml cp)) (by kernel_rfl) ?_ (fun hH => ?_)
        · exact ⟨z0, z1⟩
        refine wpAnyH_take (i := 0) (oi := { dst := some 10, op := Go.Op.move (Go.Operand.tmp 0), type := 34, pos := "ref.go:16", after := #[], guard := none }) (v := ?_) rfl (by kernel_rfl) (by kernel_rfl) (by kernel_rfl) (fun _ _ _ h => h) (Or.inl ⟨by rfl, ?_⟩) (by assumption) ?_
        rotate_left
        · intro w hSw
          try dsimp only at hSw
          obtain ⟨q0, q1⟩ := hSw
          go_simp
          all_goals with_reducible rfl
        try simp only [Act.put, List.setIfInBounds_toArray, List.set_cons_zero, List.set_cons_succ]
        refine wpAnyH_take (i := 1) (oi := { dst := some 11, op := Go.Op.nilCheck (Go.Operand.tmp 10), type := 0, pos := "ref.go:16", after := #[{ on := 0, ground := Go.Ground.data }], guard := none }) (v := ?_) rfl (by kernel_rfl) (by kernel_rfl) (by kernel_rfl) (fun _ _ _ h => h) (Or.inl ⟨by rfl, ?_⟩) (by assumption) ?_
        rotate_left
        · intro w hSw
          try dsimp only at hSw
          obtain ⟨q0, q1⟩ := hSw
          go_simp
          all_goals with_reducible rfl
        try simp only [Act.put, List.setIfInBounds_toArray, List.set_cons_zero, List.set_cons_succ]
        refine wpAnyH_take (i := 2) (oi := { dst := some 12, op := Go.Op.fieldAddr 36 (Go.Operand.tmp 11) 0, type := 0, pos := "ref.go:16", after := #[{ on := 1, ground := Go.Ground.data }], guard := none }) (v := ?_) rfl (by kernel_rfl) (by kernel_rfl) (by kernel_rfl) (fun _ _ _ h => h) (Or.inl ⟨by rfl, ?_⟩) (by assumption) ?_
        rotate_left
        · intro w hSw
          try dsimp only at hSw
          obtain ⟨q0, q1⟩ := hSw
          go_simp
          all_goals with_reducible rfl
        try simp only [Act.put, List.setIfInBounds_toArray, List.set_cons_zero, List.set_cons_succ]
        refine wpAnyH_take (i := 3) (oi := { dst := some 13, op := Go.Op.load 3 (Go.Operand.tmp 12), type := 3, pos := "ref.go:16", after := #[{ on := 2, ground := Go.Ground.data }], guard := none }) (v := ?_) rfl (by kernel_rfl) (by kernel_rfl) (by kernel_rfl) (fun _ _ _ h => h) (Or.inl ⟨by rfl, ?_⟩) (by assumption) ?_
        rotate_left
        · intro w hSw
          try dsimp only at hSw
          obtain ⟨q0, q1⟩ := hSw
          go_simp
          all_goals with_reducible rfl
        try simp only [Act.put, List.setIfInBounds_toArray, List.set_cons_zero, List.set_cons_succ]
        refine wpAnyH_take (i := 4) (oi := { dst := some 14, op := Go.Op.move (Go.Operand.tmp 1), type := 30, pos := "ref.go:16", after := #[], guard := none }) (v := ?_) rfl (by kernel_rfl) (by kernel_rfl) (by kernel_rfl) (fun _ _ _ h => h) (Or.inl ⟨by rfl, ?_⟩) (by assumption) ?_
        rotate_left
        · intro w hSw
          try dsimp only at hSw
          obtain ⟨q0, q1⟩ := hSw
          go_simp
          all_goals with_reducible rfl
        try simp only [Act.put, List.setIfInBounds_toArray, List.set_cons_zero, List.set_cons_succ]
        refine wpAnyH_take (i := 5) (oi := { dst := some 15, op := Go.Op.nilCheck (Go.Operand.tmp 14), type := 0, pos := "ref.go:16", after := #[{ on := 4, ground := Go.Ground.data }], guard := none }) (v := ?_) rfl (by kernel_rfl) (by kernel_rfl) (by kernel_rfl) (fun _ _ _ h => h) (Or.inl ⟨by rfl, ?_⟩) (by assumption) ?_
        rotate_left
        · intro w hSw
          try dsimp only at hSw
          obtain ⟨q0, q1⟩ := hSw
          go_simp
          all_goals with_reducible rfl
        try simp only [Act.put, List.setIfInBounds_toArray, List.set_cons_zero, List.set_cons_succ]
        refine wpAnyH_take (i := 6) (oi := { dst := some 16, op := Go.Op.fieldAddr 78 (Go.Operand.tmp 15) 1, type := 0, pos := "ref.go:16", after := #[{ on := 5, ground := Go.Ground.data }], guard := none }) (v := ?_) rfl (by kernel_rfl) (by kernel_rfl) (by kernel_rfl) (fun _ _ _ h => h) (Or.inl ⟨by rfl, ?_⟩) (by assumption) ?_
        rotate_left
        · intro w hSw
          try dsimp only at hSw
          obtain ⟨q0, q1⟩ := hSw
          go_simp
          all_goals with_reducible rfl
        try simp only [Act.put, List.setIfInBounds_toArray, List.set_cons_zero, List.set_cons_succ]
        refine wpAnyH_take (i := 7) (oi := { dst := some 17, op := Go.Op.load 57 (Go.Operand.tmp 16), type := 57, pos := "ref.go:16", after := #[{ on := 6, ground := Go.Ground.data }], guard := none }) (v := ?_) rfl (by kernel_rfl) (by kernel_rfl) (by kernel_rfl) (fun _ _ _ h => h) (Or.inl ⟨by rfl, ?_⟩) (by assumption) ?_
        rotate_left
        · intro w hSw
          try dsimp only at hSw
          obtain ⟨q0, q1⟩ := hSw
          go_simp
          all_goals with_reducible rfl
        try simp only [Act.put, List.setIfInBounds_toArray, List.set_cons_zero, List.set_cons_succ]
        refine wpAnyH_take (i := 8) (oi := { dst := some 18, op := Go.Op.call { callee := Go.Callee.builtin Go.Builtin.len, args := #[Go.Operand.tmp 17], argTypes := #[57] }, type := 3, pos := "ref.go:16", after := #[{ on := 7, ground := Go.Ground.data }], guard := none }) (v := ?_) rfl (by kernel_rfl) (by kernel_rfl) (by kernel_rfl) (fun _ _ _ h => h) (Or.inl ⟨by rfl, ?_⟩) (by assumption) ?_
        rotate_left
        · intro w hSw
          try dsimp only at hSw
          obtain ⟨q0, q1⟩ := hSw
          go_simp
          all_goals with_reducible rfl
        try simp only [Act.put, List.setIfInBounds_toArray, List.set_cons_zero, List.set_cons_succ]
        refine wpAnyH_take (i := 9) (oi := { dst := some 19, op := Go.Op.binOp Go.BinOp.lss 3 (Go.Operand.tmp 13) (Go.Operand.tmp 18) 3, type := 4, pos := "ref.go:16", after := #[{ on := 3, ground := Go.Ground.data }, { on := 8, ground := Go.Ground.data }], guard := none }) (v := ?_) rfl (by kernel_rfl) (by kernel_rfl) (by kernel_rfl) (fun _ _ _ h => h) (Or.inl ⟨by rfl, ?_⟩) (by assumption) ?_
        rotate_left
        · intro w hSw
          try dsimp only at hSw
          obtain ⟨q0, q1⟩ := hSw
          go_simp
          all_goals with_reducible rfl
        try simp only [Act.put, List.setIfInBounds_toArray, List.set_cons_zero, List.set_cons_succ]
        refine wpAnyH_done (by kernel_rfl) ?_ _
        go_wp2_with fail
        refine wp_region_held_drew (S := fun w' => (w'.cell? ⟨gb, 0, none⟩ = some (.int .i64 (pj : Int)) ∧ w'.cell? ⟨db, 1, none⟩ = some (.slice (some ⟨rb, off, none⟩) ml cp) ∧ w'.cell? ⟨d, 1, none⟩ = some (.pointer (some ⟨ds, 0, none⟩))) ∧ w'.cell? ⟨rb, off + pj * 3, none⟩ = some (.int .i64 ro) ∧ w'.cell? ⟨rb, off + pj * 3 + 1, none⟩ = some (.int .i64 rn) ∧ w'.cell? ⟨rb, off + pj * 3 + 2, none⟩ = some (.slice ra rl rc)) (by kernel_rfl) ?_ (fun hH => ?_)
        · exact ⟨⟨z0, z1, z2⟩, x0, x1, x2⟩
        refine wpAnyH_take (i := 0) (oi := { dst := some 21, op := Go.Op.move (Go.Operand.tmp 2), type := 32, pos := "ref.go:17", after := #[], guard := none }) (v := ?_) rfl (by kernel_rfl) (by kernel_rfl) (by kernel_rfl) (fun _ _ _ h => h) (Or.inl ⟨by rfl, ?_⟩) (by assumption) ?_
        rotate_left
        · intro w hSw
          try dsimp only at hSw
          obtain ⟨⟨q0, q1, q2⟩, q3, q4, q5⟩ := hSw
          go_simp
          all_goals with_reducible rfl
        try simp only [Act.put, List.setIfInBounds_toArray, List.set_cons_zero, List.set_cons_succ]
        refine wpAnyH_take (i := 1) (oi := { dst := some 22, op := Go.Op.nilCheck (Go.Operand.tmp 21), type := 0, pos := "ref.go:17", after := #[{ on := 0, ground := Go.Ground.data }], guard := none }) (v := ?_) rfl (by kernel_rfl) (by kernel_rfl) (by kernel_rfl) (fun _ _ _ h => h) (Or.inl ⟨by rfl, ?_⟩) (by assumption) ?_
        rotate_left
        · intro w hSw
          try dsimp only at hSw
          obtain ⟨⟨q0, q1, q2⟩, q3, q4, q5⟩ := hSw
          go_simp
          all_goals with_reducible rfl
        try simp only [Act.put, List.setIfInBounds_toArray, List.set_cons_zero, List.set_cons_succ]
        refine wpAnyH_take (i := 2) (oi := { dst := some 23, op := Go.Op.fieldAddr 82 (Go.Operand.tmp 22) 1, type := 0, pos := "ref.go:17", after := #[{ on := 1, ground := Go.Ground.data }], guard := none }) (v := ?_) rfl (by kernel_rfl) (by kernel_rfl) (by kernel_rfl) (fun _ _ _ h => h) (Or.inl ⟨by rfl, ?_⟩) (by assumption) ?_
        rotate_left
        · intro w hSw
          try dsimp only at hSw
          obtain ⟨⟨q0, q1, q2⟩, q3, q4, q5⟩ := hSw
          go_simp
          all_goals with_reducible rfl
        try simp only [Act.put, List.setIfInBounds_toArray, List.set_cons_zero, List.set_cons_succ]
        refine wpAnyH_take (i := 3) (oi := { dst := some 24, op := Go.Op.load 79 (Go.Operand.tmp 23), type := 79, pos := "ref.go:17", after := #[{ on := 2, ground := Go.Ground.data }], guard := none }) (v := ?_) rfl (by kernel_rfl) (by kernel_rfl) (by kernel_rfl) (fun _ _ _ h => h) (Or.inl ⟨by rfl, ?_⟩) (by assumption) ?_
        rotate_left
        · intro w hSw
          try dsimp only at hSw
          obtain ⟨⟨q0, q1, q2⟩, q3, q4, q5⟩ := hSw
          go_simp
          all_goals with_reducible rfl
        try simp only [Act.put, List.setIfInBounds_toArray, List.set_cons_zero, List.set_cons_succ]
        refine wpAnyH_take (i := 4) (oi := { dst := some 25, op := Go.Op.move (Go.Operand.tmp 1), type := 30, pos := "ref.go:17", after := #[], guard := none }) (v := ?_) rfl (by kernel_rfl) (by kernel_rfl) (by kernel_rfl) (fun _ _ _ h => h) (Or.inl ⟨by rfl, ?_⟩) (by assumption) ?_
        rotate_left
        · intro w hSw
          try dsimp only at hSw
          obtain ⟨⟨q0, q1, q2⟩, q3, q4, q5⟩ := hSw
          go_simp
          all_goals with_reducible rfl
        try simp only [Act.put, List.setIfInBounds_toArray, List.set_cons_zero, List.set_cons_succ]
        refine wpAnyH_take (i := 5) (oi := { dst := some 26, op := Go.Op.nilCheck (Go.Operand.tmp 25), type := 0, pos := "ref.go:17", after := #[{ on := 4, ground := Go.Ground.data }], guard := none }) (v := ?_) rfl (by kernel_rfl) (by kernel_rfl) (by kernel_rfl) (fun _ _ _ h => h) (Or.inl ⟨by rfl, ?_⟩) (by assumption) ?_
        rotate_left
        · intro w hSw
          try dsimp only at hSw
          obtain ⟨⟨q0, q1, q2⟩, q3, q4, q5⟩ := hSw
          go_simp
          all_goals with_reducible rfl
        try simp only [Act.put, List.setIfInBounds_toArray, List.set_cons_zero, List.set_cons_succ]
        refine wpAnyH_take (i := 6) (oi := { dst := some 27, op := Go.Op.fieldAddr 78 (Go.Operand.tmp 26) 1, type := 0, pos := "ref.go:17", after := #[{ on := 5, ground := Go.Ground.data }], guard := none }) (v := ?_) rfl (by kernel_rfl) (by kernel_rfl) (by kernel_rfl) (fun _ _ _ h => h) (Or.inl ⟨by rfl, ?_⟩) (by assumption) ?_
        rotate_left
        · intro w hSw
          try dsimp only at hSw
          obtain ⟨⟨q0, q1, q2⟩, q3, q4, q5⟩ := hSw
          go_simp
          all_goals with_reducible rfl
        try simp only [Act.put, List.setIfInBounds_toArray, List.set_cons_zero, List.set_cons_succ]
        refine wpAnyH_take (i := 7) (oi := { dst := some 28, op := Go.Op.load 57 (Go.Operand.tmp 27), type := 57, pos := "ref.go:17", after := #[{ on := 6, ground := Go.Ground.data }], guard := none }) (v := ?_) rfl (by kernel_rfl) (by kernel_rfl) (by kernel_rfl) (fun _ _ _ h => h) (Or.inl ⟨by rfl, ?_⟩) (by assumption) ?_
        rotate_left
        · intro w hSw
          try dsimp only at hSw
          obtain ⟨⟨q0, q1, q2⟩, q3, q4, q5⟩ := hSw
          go_simp
          all_goals with_reducible rfl
        try simp only [Act.put, List.setIfInBounds_toArray, List.set_cons_zero, List.set_cons_succ]
        refine wpAnyH_take (i := 8) (oi := { dst := some 29, op := Go.Op.move (Go.Operand.tmp 0), type := 34, pos := "ref.go:17", after := #[], guard := none }) (v := ?_) rfl (by kernel_rfl) (by kernel_rfl) (by kernel_rfl) (fun _ _ _ h => h) (Or.inl ⟨by rfl, ?_⟩) (by assumption) ?_
        rotate_left
        · intro w hSw
          try dsimp only at hSw
          obtain ⟨⟨q0, q1, q2⟩, q3, q4, q5⟩ := hSw
          go_simp
          all_goals with_reducible rfl
        try simp only [Act.put, List.setIfInBounds_toArray, List.set_cons_zero, List.set_cons_succ]
        refine wpAnyH_take (i := 9) (oi := { dst := some 30, op := Go.Op.nilCheck (Go.Operand.tmp 29), type := 0, pos := "ref.go:17", after := #[{ on := 8, ground := Go.Ground.data }], guard := none }) (v := ?_) rfl (by kernel_rfl) (by kernel_rfl) (by kernel_rfl) (fun _ _ _ h => h) (Or.inl ⟨by rfl, ?_⟩) (by assumption) ?_
        rotate_left
        · intro w hSw
          try dsimp only at hSw
          obtain ⟨⟨q0, q1, q2⟩, q3, q4, q5⟩ := hSw
          go_simp
          all_goals with_reducible rfl
        try simp only [Act.put, List.setIfInBounds_toArray, List.set_cons_zero, List.set_cons_succ]
        refine wpAnyH_take (i := 10) (oi := { dst := some 31, op := Go.Op.fieldAddr 36 (Go.Operand.tmp 30) 0, type := 0, pos := "ref.go:17", after := #[{ on := 9, ground := Go.Ground.data }], guard := none }) (v := ?_) rfl (by kernel_rfl) (by kernel_rfl) (by kernel_rfl) (fun _ _ _ h => h) (Or.inl ⟨by rfl, ?_⟩) (by assumption) ?_
        rotate_left
        · intro w hSw
          try dsimp only at hSw
          obtain ⟨⟨q0, q1, q2⟩, q3, q4, q5⟩ := hSw
          go_simp
          all_goals with_reducible rfl
        try simp only [Act.put, List.setIfInBounds_toArray, List.set_cons_zero, List.set_cons_succ]
        refine wpAnyH_take (i := 11) (oi := { dst := some 32, op := Go.Op.load 3 (Go.Operand.tmp 31), type := 3, pos := "ref.go:17", after := #[{ on := 10, ground := Go.Ground.data }], guard := none }) (v := ?_) rfl (by kernel_rfl) (by kernel_rfl) (by kernel_rfl) (fun _ _ _ h => h) (Or.inl ⟨by rfl, ?_⟩) (by assumption) ?_
        rotate_left
        · intro w hSw
          try dsimp only at hSw
          obtain ⟨⟨q0, q1, q2⟩, q3, q4, q5⟩ := hSw
          go_simp
          all_goals with_reducible rfl
        try simp only [Act.put, List.setIfInBounds_toArray, List.set_cons_zero, List.set_cons_succ]
        refine wpAnyH_take (i := 12) (oi := { dst := some 33, op := Go.Op.indexAddr 57 (Go.Operand.tmp 28) (Go.Operand.tmp 32), type := 0, pos := "ref.go:17", after := #[{ on := 7, ground := Go.Ground.data }, { on := 11, ground := Go.Ground.data }], guard := none }) (v := ?_) rfl (by kernel_rfl) (by kernel_rfl) (by kernel_rfl) (fun _ _ _ h => h) (Or.inl ⟨by rfl, ?_⟩) (by assumption) ?_
        rotate_left
        · intro w hSw
          try dsimp only at hSw
          obtain ⟨⟨q0, q1, q2⟩, q3, q4, q5⟩ := hSw
          go_simp
          all_goals with_reducible rfl
        try simp only [Act.put, List.setIfInBounds_toArray, List.set_cons_zero, List.set_cons_succ]
        refine wpAnyH_take (i := 13) (oi := { dst := some 34, op := Go.Op.load 43 (Go.Operand.tmp 33), type := 43, pos := "ref.go:17", after := #[{ on := 12, ground := Go.Ground.data }], guard := none }) (v := ?_) rfl (by kernel_rfl) (by kernel_rfl) (by kernel_rfl) (fun _ _ _ h => h) (Or.inl ⟨by rfl, ?_⟩) (by assumption) ?_
        rotate_left
        · intro w hSw
          try dsimp only at hSw
          obtain ⟨⟨q0, q1, q2⟩, q3, q4, q5⟩ := hSw
          go_simp
          all_goals with_reducible rfl
        try simp only [Act.put, List.setIfInBounds_toArray, List.set_cons_zero, List.set_cons_succ]
        refine wpAnyH_ready (rs := [14]) (by kernel_rfl) (by simp) ?_
        refine AllReadyH.cons (o := { dst := some 35, op := Go.Op.call { callee := Go.Callee.value (Go.Operand.func 33), args := #[Go.Operand.tmp 34], argTypes := #[43] }, type := 9, pos := "ref.go:17", after := #[{ on := 13, ground := Go.Ground.data }], guard := none }) rfl (fun K hK => ?_) ?_
        · go_simp
          refine (X.docbytes ro rn ra rl rc rus HMAY.out wr.drew.drew (isUs_same HU.out fun _ _ _ => rfl)).mono ?_
          rintro e y1 ⟨rfl, hb⟩
          have hb1 : Below wr.heap.size wr y1 := ⟨hb.os, hb.tape, hb.output, hb.size, hb.block⟩
          have HB1 := Lib.hid hb1
          have g1 := HJ.out.next hb1
          obtain ⟨m1, m2⟩ := HKEEP.out y1 (fun k hk => hb1.block k (HJ.out.lg.foot k hk).2)
          have m0 := g1.fd.c0
          have m3 := g1.d1
          have H1 := Lib.hid g1
          have HOF := Lib.hid (g1.off (pxC (ro, rn, rus)) HX.out HOE.out HBD.out)
          have HO1 := Lib.hid (HO.out.trans (OthD.ofBelow hb1))
          clear hb hb1 g1
          go_wp2_with fail
          refine hK.out _ _ ?_ (fun hH => ?_)
          · exact ⟨⟨m0, m1, m3⟩, m2.1, m2.2.1, m2.2.2⟩
          clear hK K
          try simp only [Act.put, List.setIfInBounds_toArray, List.set_cons_zero, List.set_cons_succ]
          refine wpAnyH_ready (rs := [15]) (by kernel_rfl) (by simp) ?_
          refine AllReadyH.cons (o := { dst := some 36, op := Go.Op.call { callee := Go.Callee.value (Go.Operand.func 37), args := #[Go.Operand.tmp 24, Go.Operand.tmp 35], argTypes := #[79, 9] }, type := 88, pos := "ref.go:17", after := #[{ on := 3, ground := Go.Ground.data }, { on := 14, ground := Go.Ground.data }, { on := 14, ground := Go.Ground.chain }], guard := none }) rfl (fun K hK => ?_) ?_
          · go_simp
            refine HOF.out.mono ?_
            rintro e y2 ⟨⟨nn, rfl⟩, h2, ho2⟩
            obtain ⟨n1, n2⟩ := HKEEP.out y2 (fun k hk => by
              obtain ⟨cur, t, fr, hc, ht⟩ := H1.out.lg.typ k hk
              refine (ho2 k cur t fr hc ?_ ?_ ?_ ?_).trans (HB1.out.block k (HJ.out.lg.foot k hk).2) <;> (rcases ht with rfl | rfl | rfl <;> decide))
            have n0 := h2.fd.c0
            have n3 := h2.d1
            have H2 := Lib.hid h2
            have HO2 := Lib.hid (HO1.out.trans ho2)
            clear h2 ho2
            go_wp2_with fail
            refine hK.out _ _ ?_ (fun hH => ?_)
            · exact ⟨⟨n0, n1, n3⟩, n2.1, n2.2.1, n2.2.2⟩
            clear hK K
            try simp only [Act.put, List.setIfInBounds_toArray, List.set_cons_zero, List.set_cons_succ]
            refine wpAnyH_take (i := 16) (oi := { dst := some 20, op := Go.Op.move (Go.Operand.tmp 36), type := 88, pos := "ref.go:17", after := #[{ on := 15, ground := Go.Ground.data }], guard := none }) (v := ?_) rfl (by kernel_rfl) (by kernel_rfl) (by kernel_rfl) (fun _ _ _ h => h) (Or.inl ⟨by rfl, ?_⟩) (by assumption) ?_
            rotate_left
            · intro w hSw
              try dsimp only at hSw
              obtain ⟨⟨q0, q1, q2⟩, q3, q4, q5⟩ := hSw
              go_simp
              all_goals with_reducible rfl
            try simp only [Act.put, List.setIfInBounds_toArray, List.set_cons_zero, List.set_cons_succ]
            refine wpAnyH_take (i := 17) (oi := { dst := some 37, op := Go.Op.extract (Go.Operand.tmp 20) 0, type := 3, pos := "ref.go:17", after := #[{ on := 16, ground := Go.Ground.data }], guard := none }) (v := ?_) rfl (by kernel_rfl) (by kernel_rfl) (by kernel_rfl) (fun _ _ _ h => h) (Or.inl ⟨by rfl, ?_⟩) (by assumption) ?_
            rotate_left
            · intro w hSw
              try dsimp only at hSw
              obtain ⟨⟨q0, q1, q2⟩, q3, q4, q5⟩ := hSw
              go_simp
              all_goals with_reducible rfl
            try simp only [Act.put, List.setIfInBounds_toArray, List.set_cons_zero, List.set_cons_succ]
            refine wpAnyH_take (i := 18) (oi := { dst := some 38, op := Go.Op.extract (Go.Operand.tmp 20) 1, type := 3, pos := "ref.go:17", after := #[{ on := 16, ground := Go.Ground.data }, { on := 19, ground := Go.Ground.gcOnly Go.Departure.lateStores }], guard := none }) (v := ?_) rfl (by kernel_rfl) (by kernel_rfl) (by kernel_rfl) (fun _ _ _ h => h) (Or.inl ⟨by rfl, ?_⟩) (by assumption) ?_
            rotate_left
            · intro w hSw
              try dsimp only at hSw
              obtain ⟨⟨q0, q1, q2⟩, q3, q4, q5⟩ := hSw
              go_simp
              all_goals with_reducible rfl
            try simp only [Act.put, List.setIfInBounds_toArray, List.set_cons_zero, List.set_cons_succ]
            refine wpAnyH_take (i := 19) (oi := { dst := some 8, op := Go.Op.assign (Go.Operand.tmp 37), type := 3, pos := "ref.go:17", after := #[{ on := 17, ground := Go.Ground.data }, { on := 15, ground := Go.Ground.chain }, { on := 0, ground := Go.Ground.phase }, { on := 1, ground := Go.Ground.phase }, { on := 2, ground := Go.Ground.phase }, { on := 3, ground := Go.Ground.phase }, { on := 4, ground := Go.Ground.phase }, { on := 5, ground := Go.Ground.phase }, { on := 6, ground := Go.Ground.phase }, { on := 7, ground := Go.Ground.phase }, { on := 8, ground := Go.Ground.phase }, { on := 9, ground := Go.Ground.phase }, { on := 10, ground := Go.Ground.phase }, { on := 11, ground := Go.Ground.phase }, { on := 12, ground := Go.Ground.phase }, { on := 13, ground := Go.Ground.phase }, { on := 14, ground := Go.Ground.phase }, { on := 15, ground := Go.Ground.phase }, { on := 16, ground := Go.Ground.phase }, { on := 17, ground := Go.Ground.phase }, { on := 18, ground := Go.Ground.textOnly Go.Departure.lateStores }], guard := none }) (v := ?_) rfl (by kernel_rfl) (by kernel_rfl) (by kernel_rfl) (fun _ _ _ h => h) (Or.inl ⟨by rfl, ?_⟩) (by assumption) ?_
            rotate_left
            · intro w hSw
              try dsimp only at hSw
              obtain ⟨⟨q0, q1, q2⟩, q3, q4, q5⟩ := hSw
              go_simp
              all_goals with_reducible rfl
            try simp only [Act.put, List.setIfInBounds_toArray, List.set_cons_zero, List.set_cons_succ]
            refine wpAnyH_take (i := 20) (oi := { dst := some 9, op := Go.Op.assign (Go.Operand.tmp 38), type := 3, pos := "ref.go:17", after := #[{ on := 18, ground := Go.Ground.data }, { on := 19, ground := Go.Ground.chain }, { on := 0, ground := Go.Ground.phase }, { on := 1, ground := Go.Ground.phase }, { on := 2, ground := Go.Ground.phase }, { on := 3, ground := Go.Ground.phase }, { on := 4, ground := Go.Ground.phase }, { on := 5, ground := Go.Ground.phase }, { on := 6, ground := Go.Ground.phase }, { on := 7, ground := Go.Ground.phase }, { on := 8, ground := Go.Ground.phase }, { on := 9, ground := Go.Ground.phase }, { on := 10, ground := Go.Ground.phase }, { on := 11, ground := Go.Ground.phase }, { on := 12, ground := Go.Ground.phase }, { on := 13, ground := Go.Ground.phase }, { on := 14, ground := Go.Ground.phase }, { on := 15, ground := Go.Ground.phase }, { on := 16, ground := Go.Ground.phase }, { on := 17, ground := Go.Ground.phase }, { on := 18, ground := Go.Ground.phase }, { on := 19, ground := Go.Ground.phase }], guard := none }) (v := ?_) rfl (by kernel_rfl) (by kernel_rfl) (by kernel_rfl) (fun _ _ _ h => h) (Or.inl ⟨by rfl, ?_⟩) (by assumption) ?_
            rotate_left
            · intro w hSw
              try dsimp only at hSw
              obtain ⟨⟨q0, q1, q2⟩, q3, q4, q5⟩ := hSw
              go_simp
              all_goals with_reducible rfl
            try simp only [Act.put, List.setIfInBounds_toArray, List.set_cons_zero, List.set_cons_succ]
            refine wpAnyH_done (by kernel_rfl) ?_ _
            rw [HPX3.out, HFULL.out, ← HS1.out, ← HPJ.out] at H2
            clear z0 z1 z2 x0 x1 x2 m0 m1 m2 m3 n1 n2 n3
            go_wp2
            go_ret
            exact ⟨rfl, H2.out, HO2.out⟩
          exact AllReadyH.nil
        exact AllReadyH.nil
    · have q1 : decide ((pj : Int) < (ml : Int)) = false := decide_eq_false (by omega)
      obtain ⟨s1, s2⟩ := pump_end (E := Dk) (L := M) (p := pj) (by have := HML.out; omega)
      rw [HPE.out] at s1
      rw [s2] at HPN
      have hnj : n = j := by have := HPN.out; omega
      subst hnj
      have H2 := Lib.hid (HJ.out.next (w' := wr.drew) (Below.refl _ _).drew)
      have HO2 := Lib.hid (HO.out.trans (OthD.ofBelow (w' := wr.drew) (Below.refl _ _).drew))
      rw [← s1, ← HPJ.out] at H2
      clear s1 s2 hir hmap hkeep hgood
      go_wp2_with fail
      refine wp_region_held_drew (S := fun w' => w'.cell? ⟨gb, 0, none⟩ = some (.int .i64 (pj : Int)) ∧ w'.cell? ⟨db, 1, none⟩ = some (.slice a ml cp)) (by kernel_rfl) ?_ (fun hH => ?_)
      · exact ⟨z0, z1⟩
      refine wpAnyH_take (i := 0) (oi := { dst := some 10, op := Go.Op.move (Go.Operand.tmp 0), type := 34, pos := "ref.go:16", after := #[], guard := none }) (v := ?_) rfl (by kernel_rfl) (by kernel_rfl) (by kernel_rfl) (fun _ _ _ h => h) (Or.inl ⟨by rfl, ?_⟩) (by assumption) ?_
      rotate_left
      · intro w hSw
        try dsimp only at hSw
        obtain ⟨q0, q1⟩ := hSw
        go_simp
        all_goals with_reducible rfl
      try simp only [Act.put, List.setIfInBounds_toArray, List.set_cons_zero, List.set_cons_succ]
      refine wpAnyH_take (i := 1) (oi := { dst := some 11, op := Go.Op.nilCheck (Go.Operand.tmp 10), type := 0, pos := "ref.go:16", after := #[{ on := 0, ground := Go.Ground.data }], guard := none }) (v := ?_) rfl (by kernel_rfl) (by kernel_rfl) (by kernel_rfl) (fun _ _ _ h => h) (Or.inl ⟨by rfl, ?_⟩) (by assumption) ?_
      rotate_left
      · intro w hSw
        try dsimp only at hSw
        obtain ⟨q0, q1⟩ := hSw
        go_simp
        all_goals with_reducible rfl
      try simp only [Act.put, List.setIfInBounds_toArray, List.set_cons_zero, List.set_cons_succ]
      refine wpAnyH_take (i := 2) (oi := { dst := some 12, op := Go.Op.fieldAddr 36 (Go.Operand.tmp 11) 0, type := 0, pos := "ref.go:16", after := #[{ on := 1, ground := Go.Ground.data }], guard := none }) (v := ?_) rfl (by kernel_rfl) (by kernel_rfl) (by kernel_rfl) (fun _ _ _ h => h) (Or.inl ⟨by rfl, ?_⟩) (by assumption) ?_
      rotate_left
      · intro w hSw
        try dsimp only at hSw
        obtain ⟨q0, q1⟩ := hSw
        go_simp
        all_goals with_reducible rfl
      try simp only [Act.put, List.setIfInBounds_toArray, List.set_cons_zero, List.set_cons_succ]
      refine wpAnyH_take (i := 3) (oi := { dst := some 13, op := Go.Op.load 3 (Go.Operand.tmp 12), type := 3, pos := "ref.go:16", after := #[{ on := 2, ground := Go.Ground.data }], guard := none }) (v := ?_) rfl (by kernel_rfl) (by kernel_rfl) (by kernel_rfl) (fun _ _ _ h => h) (Or.inl ⟨by rfl, ?_⟩) (by assumption) ?_
      rotate_left
      · intro w hSw
        try dsimp only at hSw
        obtain ⟨q0, q1⟩ := hSw
        go_simp
        all_goals with_reducible rfl
      try simp only [Act.put, List.setIfInBounds_toArray, List.set_cons_zero, List.set_cons_succ]
      refine wpAnyH_take (i := 4) (oi := { dst := some 14, op := Go.Op.move (Go.Operand.tmp 1), type := 30, pos := "ref.go:16", after := #[], guard := none }) (v := ?_) rfl (by kernel_rfl) (by kernel_rfl) (by kernel_rfl) (fun _ _ _ h => h) (Or.inl ⟨by rfl, ?_⟩) (by assumption) ?_
      rotate_left
      · intro w hSw
        try dsimp only at hSw
        obtain ⟨q0, q1⟩ := hSw
        go_simp
        all_goals with_reducible rfl
      try simp only [Act.put, List.setIfInBounds_toArray, List.set_cons_zero, List.set_cons_succ]
      refine wpAnyH_take (i := 5) (oi := { dst := some 15, op := Go.Op.nilCheck (Go.Operand.tmp 14), type := 0, pos := "ref.go:16", after := #[{ on := 4, ground := Go.Ground.data }], guard := none }) (v := ?_) rfl (by kernel_rfl) (by kernel_rfl) (by kernel_rfl) (fun _ _ _ h => h) (Or.inl ⟨by rfl, ?_⟩) (by assumption) ?_
      rotate_left
      · intro w hSw
        try dsimp only at hSw
        obtain ⟨q0, q1⟩ := hSw
        go_simp
        all_goals with_reducible rfl
      try simp only [Act.put, List.setIfInBounds_toArray, List.set_cons_zero, List.set_cons_succ]
      refine wpAnyH_take (i := 6) (oi := { dst := some 16, op := Go.Op.fieldAddr 78 (Go.Operand.tmp 15) 1, type := 0, pos := "ref.go:16", after := #[{ on := 5, ground := Go.Ground.data }], guard := none }) (v := ?_) rfl (by kernel_rfl) (by kernel_rfl) (by kernel_rfl) (fun _ _ _ h => h) (Or.inl ⟨by rfl, ?_⟩) (by assumption) ?_
      rotate_left
      · intro w hSw
        try dsimp only at hSw
        obtain ⟨q0, q1⟩ := hSw
        go_simp
        all_goals with_reducible rfl
      try simp only [Act.put, List.setIfInBounds_toArray, List.set_cons_zero, List.set_cons_succ]
      refine wpAnyH_take (i := 7) (oi := { dst := some 17, op := Go.Op.load 57 (Go.Operand.tmp 16), type := 57, pos := "ref.go:16", after := #[{ on := 6, ground := Go.Ground.data }], guard := none }) (v := ?_) rfl (by kernel_rfl) (by kernel_rfl) (by kernel_rfl) (fun _ _ _ h => h) (Or.inl ⟨by rfl, ?_⟩) (by assumption) ?_
      rotate_left
      · intro w hSw
        try dsimp only at hSw
        obtain ⟨q0, q1⟩ := hSw
        go_simp
        all_goals with_reducible rfl
      try simp only [Act.put, List.setIfInBounds_toArray, List.set_cons_zero, List.set_cons_succ]
      refine wpAnyH_take (i := 8) (oi := { dst := some 18, op := Go.Op.call { callee := Go.Callee.builtin Go.Builtin.len, args := #[Go.Operand.tmp 17], argTypes := #[57] }, type := 3, pos := "ref.go:16", after := #[{ on := 7, ground := Go.Ground.data }], guard := none }) (v := ?_) rfl (by kernel_rfl) (by kernel_rfl) (by kernel_rfl) (fun _ _ _ h => h) (Or.inl ⟨by rfl, ?_⟩) (by assumption) ?_
      rotate_left
      · intro w hSw
        try dsimp only at hSw
        obtain ⟨q0, q1⟩ := hSw
        go_simp
        all_goals with_reducible rfl
      try simp only [Act.put, List.setIfInBounds_toArray, List.set_cons_zero, List.set_cons_succ]
      refine wpAnyH_take (i := 9) (oi := { dst := some 19, op := Go.Op.binOp Go.BinOp.lss 3 (Go.Operand.tmp 13) (Go.Operand.tmp 18) 3, type := 4, pos := "ref.go:16", after := #[{ on := 3, ground := Go.Ground.data }, { on := 8, ground := Go.Ground.data }], guard := none }) (v := ?_) rfl (by kernel_rfl) (by kernel_rfl) (by kernel_rfl) (fun _ _ _ h => h) (Or.inl ⟨by rfl, ?_⟩) (by assumption) ?_
      rotate_left
      · intro w hSw
        try dsimp only at hSw
        obtain ⟨q0, q1⟩ := hSw
        go_simp
        all_goals with_reducible rfl
      try simp only [Act.put, List.setIfInBounds_toArray, List.set_cons_zero, List.set_cons_succ]
      refine wpAnyH_done (by kernel_rfl) ?_ _
      clear z0 z1 z2
      go_wp2
      go_ret
      exact ⟨rfl, H2.out, HO2.out⟩
end
end Go.Proofs.YtjmkdgjdemndaaaDoor
