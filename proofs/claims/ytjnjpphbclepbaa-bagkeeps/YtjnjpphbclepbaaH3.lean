/- The program's Take, Twice. -/
import Derived.Test.YtjnjpphbclepbaaH2
import Derived.Deep.RegionLawGrows
import Derived.Deep.RegionHeld3
import Derived.Deep.RegionWith
namespace Go.Proofs.Ytjnjpphbclepbaa
open Go Go.RowKit
set_option maxRecDepth 20000
theorem set_heap {w : World} {b i : Nat} {cur : Array Value} {t : TypeId} {fr : Nat × Nat} (h : w.heap[b]? = some (.cells cur t fr)) (v : Value) : (w.setCell ⟨b, i, none⟩ v).heap[b]? = some (.cells (cur.setIfInBounds i v) t fr) := by simp [World.setCell, Array.getElem?_modify, h]
theorem bk_put {B b : Nat} {w : World} {v v' : Value} {l : List Pk} (hlo : B ≤ b) (h : w.heap[b]? = some (.cells #[v] 53 (0, 0))) (hr : RowK B w v' l) (hok : Okb l) : Bk B (w.setCell ⟨b, 0, none⟩ v') b v' l :=
  ⟨hlo, set_heap h v', hr.same fun j hj => Below.heap_setCell _ _ _ _ (fun e => by
    obtain ⟨cur, hc⟩ := hr.typ j hj
    exact two_types hc h (by decide) e), hok⟩
theorem Bk.set {B b : Nat} {w : World} {v : Value} {l : List Pk} (h : Bk B w b v l) {r i : Nat} (u : Value) (h1 : b ≠ r) (h2 : v.ownBlock ≠ some r) : Bk B (w.setCell ⟨r, i, none⟩ u) b v l :=
  h.same (Below.heap_setCell _ _ _ _ h1) (fun j hj => Below.heap_setCell _ _ _ _ (fun e => h2 (by rw [hj, e])))
theorem Bk.box {B b : Nat} {w : World} {v : Value} {l : List Pk} (h : Bk B w b v l) {r : Nat} {cur : Array Value} {t : TypeId} {fr : Nat × Nat} (hr : w.heap[r]? = some (.cells cur t fr)) (h1 : t ≠ 53) (h2 : t ≠ 60) : b ≠ r ∧ v.ownBlock ≠ some r :=
  ⟨fun e => two_types h.blk hr (Ne.symm h1) e, fun e => by
    obtain ⟨cur', hc⟩ := h.row.typ r e
    exact two_types hr hc h2 rfl⟩
theorem Bk.set3 {B b : Nat} {w : World} {v : Value} {l : List Pk} (h : Bk B w b v l) {r : Nat} (h12 : b ≠ r ∧ v.ownBlock ≠ some r) (u0 u1 u2 : Value) : Bk B (((w.setCell ⟨r, 0, none⟩ u0).setCell ⟨r, 1, none⟩ u1).setCell ⟨r, 2, none⟩ u2) b v l :=
  ((h.set u0 h12.1 h12.2).set u1 h12.1 h12.2).set u2 h12.1 h12.2
theorem Fr.setNew {w w' : World} {b : Nat} {r : Option Nat} (h : Fr w w' b r) {q i : Nat} (hq : w.heap.size ≤ q) (u : Value) : Fr w (w'.setCell ⟨q, i, none⟩ u) b r :=
  ⟨h.os, h.tape, h.output, by simpa [World.setCell] using h.size, fun j hj h1 h2 => (Below.heap_setCell _ _ _ _ (show j ≠ q by omega)).trans (h.block j hj h1 h2)⟩
theorem Fr.setB {w w' : World} {b : Nat} {r : Option Nat} (h : Fr w w' b r) {i : Nat} (u : Value) : Fr w (w'.setCell ⟨b, i, none⟩ u) b r := h.trans (Fr.set w' b i u r)
theorem Fr.row {w w1 w2 : World} {b : Nat} {r : Option Nat} (h : Below w.heap.size w w1) (hg : w1.grownBy w2 r) : Fr w w2 b r := (Fr.ofBelow h).trans (Fr.ofRow hg)
theorem Fr.kept {w w' : World} {b : Nat} {v : Value} {l : List Pk} {B : Nat} (h : Fr w w' b v.ownBlock) (hk : Bk B w b v l) {X : Nat} {cur : Array Value} {t : TypeId} {fr : Nat × Nat} (hX : w.heap[X]? = some (.cells cur t fr)) (h1 : t ≠ 53) (h2 : t ≠ 60) : w'.heap[X]? = some (.cells cur t fr) := by
  obtain ⟨p, q⟩ := hk.box hX h1 h2
  exact (h.block X (Array.getElem?_eq_some_iff.1 hX).1 (fun e => p e.symm) (fun e => q e.symm)).trans hX
theorem okb_erase {l : List Pk} (h : Okb l) (k : Nat) : Okb (l.eraseIdx k) := ⟨by have := h.len; have := List.length_eraseIdx_le l k; omega, fun p hp => h.sh p (List.mem_of_mem_eraseIdx hp)⟩
theorem okb_app {l : List Pk} (h : Okb l) {p : Pk} (hl : l.length < 4096) (hp : p.2.2.1.size ≤ 1000) : Okb (l ++ [p]) := ⟨by simp; omega, fun q hq => by
  rcases List.mem_append.1 hq with hq | hq
  · exact h.sh q hq
  · obtain rfl : q = p := by simpa using hq
    exact hp⟩
section
variable {B b : Nat} {v : Value} {l : List Pk}
set_option maxHeartbeats 4000000 in
theorem take_in (k : Nat) (hk : k < l.length) (w : World) (h : Bk B w b v l) : Calls Try.prog 16 #[.pointer (some ⟨b, 0, none⟩), .int .i64 (k : Int)] w fun x w' => x = .returned (.tuple #[pv (pktOf (l.getD k pq0)), .bool true]) ∧ (∃ v', v'.ownBlock = v.ownBlock ∧ Bk B w' b v' (l.eraseIdx k)) ∧ Fr w w' b v.ownBlock := by
  have HA := fun W hW => Lib.hid (at_in (B := B) (b := b) (v := v) k hk W hW)
  have HKK := fun o => Lib.hid (h.alloc o)
  have HK := Lib.hid hk
  have HOK := Lib.hid h.ok
  have HBK := Lib.hid h
  obtain ⟨n, hn⟩ : ∃ n, l.length = n := ⟨_, rfl⟩
  have hkn : k < n := by omega
  have hn4 : n ≤ 4096 := by have := h.ok.len; omega
  have hwr : IntKind.i64.wrap ((k : Int) + 1) = (k : Int) + 1 := i64_id (by omega) (by omega)
  have HN := Lib.hid hn
  obtain ⟨⟨pf, pt, pd⟩, hp⟩ : ∃ p, pktOf (l.getD k pq0) = p := ⟨_, rfl⟩
  rw [hp] at HA ⊢
  unfold pv at *
  simp only at HA ⊢
  obtain ⟨g, c, hv, hlo, hgb, _, _⟩ := h.at hk
  rw [hn] at hv
  have HV := Lib.hid hv
  clear h hk hp hn hv
  go_enter Try.func16, Try.ntmps16
  go_wp2_with fail
  refine (HA _ (HKK _).out).out.mono ?_
  rintro e w1 ⟨rfl, hb⟩
  have HB1 := Lib.hid ((Joins.below_alloc1 w _).trans (hb.mono (by simp)))
  have hr := kept_at (new_at (n := w.heap.size) rfl) hb
  have HR := Lib.hid hr
  have hlt : w.heap.size < w1.heap.size := (Array.getElem?_eq_some_iff.1 hr).1
  have hk1 : Bk B w1 b v l := HBK.out.next HB1.out
  have hk2 := hk1.alloc (.cells #[.int .i64 pf, .int .i64 pt, .string pd] 39)
  have c0 := hk2.c0
  rw [HV.out] at c0
  have HK1 := Lib.hid hk1
  have HK2 := Lib.hid hk2
  clear hb hr HA HKK hk1 hk2
  go_wp2_with fail
  refine (delete_any k hkn HN.out.symm _ (HV.out ▸ HK2.out.row) hn4).mono ?_
  rintro e w2 ⟨rfl, hrow, hg⟩
  have hbl : w2.heap[b]? = some (.cells #[v] 53 (0, 0)) := (hg.block b HK2.out.lt (fun e => by cases e; exact hgb rfl)).trans HK2.out.blk
  have c1 := cell_at hbl 0 _ rfl
  have f1 := unfrozen_at hbl 0
  have hpk : w2.heap[w1.heap.size]? = some (.cells #[.int .i64 pf, .int .i64 pt, .string pd] 39 (0, 0)) := (hg.block _ (by simp) (fun e => by
    have := (HK1.out.row.lt g (by rw [HV.out]; rfl)).2
    cases e; omega)).trans (new_at rfl)
  have hzz : w2.heap[w.heap.size]? = some (.cells #[.int .i64 0, .int .i64 0, .string ⟨#[]⟩] 39 (0, 0)) := (hg.block _ (by simp; omega) (fun e => by
    have := (HBK.out.row.lt g (by rw [HV.out]; rfl)).2
    cases e; omega)).trans (old_at HR.out)
  have hne1 : b ≠ w1.heap.size := by have := HK1.out.lt; omega
  have hne2 : b ≠ w.heap.size := by have := HBK.out.lt; omega
  have hp1 : (w2.setCell ⟨b, 0, none⟩ (.slice (some ⟨g, 0, none⟩) (n - 1) c)).heap[w1.heap.size]? = some (.cells #[.int .i64 pf, .int .i64 pt, .string pd] 39 (0, 0)) := (Below.heap_setCell _ _ _ _ (Ne.symm hne1)).trans hpk
  have hz1 : (w2.setCell ⟨b, 0, none⟩ (.slice (some ⟨g, 0, none⟩) (n - 1) c)).heap[w.heap.size]? = some (.cells #[.int .i64 0, .int .i64 0, .string ⟨#[]⟩] 39 (0, 0)) := (Below.heap_setCell _ _ _ _ (Ne.symm hne2)).trans hzz
  have d0 := cell_at hp1 0 _ rfl
  have d1 := cell_at hp1 1 _ rfl
  have d2 := cell_at hp1 2 _ rfl
  have z0 := cell_at hz1 0 _ rfl
  have z1 := cell_at hz1 1 _ rfl
  have z2 := cell_at hz1 2 _ rfl
  have y0 := unfrozen_at hz1 0
  have y1 := unfrozen_at hz1 1
  have y2 := unfrozen_at hz1 2
  have hown : (Value.slice (some ⟨g, 0, none⟩) (n - 1) c).ownBlock = v.ownBlock := by rw [HV.out]; rfl
  have hput := bk_put HBK.out.lo hbl hrow (okb_erase HOK.out k)
  have HFIN := Lib.hid (hput.set3 (hput.box hz1 (by decide) (by decide)) (.int .i64 pf) (.int .i64 pt) (.string pd))
  have HFR : Hid (Fr w w2 b v.ownBlock) := Lib.hid (by
    have := Fr.row (b := b) (HB1.out.alloc (Nat.le_of_lt hlt) (.cells #[.int .i64 pf, .int .i64 pt, .string pd] 39)) hg
    rw [HV.out]; exact this)
  have HOW := Lib.hid hown
  have HLE : Hid (w.heap.size ≤ w.heap.size) := Lib.hid (Nat.le_refl _)
  clear c0 hg hrow hbl hpk hzz hp1 hz1 hput hown hgb hlo
  go_wp2
  refine bodyPost_ret (v := .tuple #[.agg #[.int .i64 pf, .int .i64 pt, .string pd], .bool true]) (by simp [results, Try.results16, go_sem, z0, z1, z2]) rfl ⟨rfl, ⟨_, HOW.out, HFIN.out⟩, ?_⟩
  exact ((((HFR.out.setB _).setNew HLE.out _).setNew HLE.out _).setNew HLE.out _)
set_option maxHeartbeats 1600000 in
theorem twice_none (i : Int) (hi : ¬ (0 ≤ i ∧ i < (l.length : Int))) (w : World) (h : Bk B w b v l) : Calls Try.prog 17 #[.pointer (some ⟨b, 0, none⟩), .int .i64 i] w fun x w' => x = .returned (.int .i64 11) ∧ w' = w := by
  have HH := fun W hW => Lib.hid (has_any (B := B) (b := b) (v := v) (l := l) i false (by simpa using hi) W hW)
  have HBK := Lib.hid h
  clear h hi
  go_enter Try.func17, Try.ntmps17
  go_wp2_with fail
  refine (HH _ HBK.out).out.mono ?_
  rintro e w1 ⟨rfl, rfl⟩
  go_wp2
  go_ret
  exact ⟨rfl, rfl⟩
set_option maxHeartbeats 1600000 in
theorem twice_full (k : Nat) (hk : k < l.length) (hf : l.length = 4096) (w : World) (h : Bk B w b v l) : Calls Try.prog 17 #[.pointer (some ⟨b, 0, none⟩), .int .i64 (k : Int)] w fun x w' => x = .returned (.int .i64 7) ∧ w' = w := by
  have HH := fun W hW => Lib.hid (has_any (B := B) (b := b) (v := v) (l := l) (k : Int) true (by simp; omega) W hW)
  have HBK := Lib.hid h
  obtain ⟨a, c, hv, _⟩ := h.row.is
  have c0 := h.c0
  rw [hv, hf] at c0
  clear h hk hv
  go_enter Try.func17, Try.ntmps17
  go_wp2_with fail
  refine (HH _ HBK.out).out.mono ?_
  rintro e w1 ⟨rfl, rfl⟩
  go_wp2
  go_ret
  exact ⟨rfl, rfl⟩
theorem app_fin {w W w8 : World} {a2 : Option Addr} {c2 n : Nat} {p : Pk} (h : Bk B w b v l) (hW : Below w.heap.size w W) (hr : RowK B w8 (.slice a2 n c2) (l ++ [p])) (hg : W.grownBy w8 v.ownBlock) (hl : l.length < 4096) (hs : p.2.2.1.size ≤ 1000) :
    w8.heap[b]? = some (.cells #[v] 53 (0, 0)) ∧ Bk B (w8.setCell ⟨b, 0, none⟩ (.slice a2 n c2)) b (.slice a2 n c2) (l ++ [p]) ∧ Fr w (w8.setCell ⟨b, 0, none⟩ (.slice a2 n c2)) b v.ownBlock := by
  have h1 := h.next hW
  have hb : w8.heap[b]? = some (.cells #[v] 53 (0, 0)) := (hg.block b h1.lt (fun e => h1.rowb e.symm)).trans h1.blk
  exact ⟨hb, bk_put h.lo hb hr (okb_app h.ok hl hs), (Fr.row hW hg).setB _⟩
set_option maxHeartbeats 4000000 in
theorem twice_ok (k : Nat) (hk : k < l.length) (hf : l.length < 4096) (w : World) (h : Bk B w b v l) : Calls Try.prog 17 #[.pointer (some ⟨b, 0, none⟩), .int .i64 (k : Int)] w fun x w' => x = .returned (.int .i64 0) ∧ (∃ v', Bk B w' b v' (l ++ [l.getD k pq0])) ∧ Fr w w' b v.ownBlock := by
  have HH := fun W hW => Lib.hid (has_any (B := B) (b := b) (v := v) (l := l) (k : Int) true (by simp; omega) W hW)
  have HBK := Lib.hid h
  have HLT := Lib.hid hf
  have HLB : Hid (B ≤ w.heap.size) := Lib.hid (Nat.le_trans h.lo (Nat.le_of_lt h.lt))
  obtain ⟨⟨pf, pt, pd, pm⟩, hp⟩ : ∃ p, l.getD k pq0 = p := ⟨_, rfl⟩
  have hsz := h.sz hk
  rw [hp] at hsz ⊢
  have HSZ := Lib.hid hsz
  obtain ⟨g, c, rfl, hlo, hgb, hat, _⟩ := h.at hk
  have hx := hat k hk
  rw [hp] at hx
  have x0 := hx.fr
  have x1 := hx.to
  have x2 := hx.d
  have x3 := hx.m
  simp only at x0 x1 x2 x3
  have c0 := h.c0
  obtain ⟨n, hn⟩ : ∃ n, l.length = n := ⟨_, rfl⟩
  rw [hn] at c0 hk hf
  have HN := Lib.hid hn
  have q1 : ((n : Int) == 4096) = false := beq_false_of_ne (by omega)
  have HW0 : Hid (Below w.heap.size w w.drew) := Lib.hid (Below.refl w.heap.size w).drew
  clear h hp hsz hx hat hn hlo hgb
  go_enter Try.func17, Try.ntmps17
  go_wp2_with fail
  refine (HH _ HBK.out).out.mono ?_
  rintro e w1 ⟨rfl, hw⟩
  obtain rfl := hw.symm
  clear HH
  go_wp2_with fail
  refine wp_region_held_drew (S := fun w' => 0 ≤ w'.heap.size) (by kernel_rfl) ?_ (fun hH => ?_)
  · exact (Nat.zero_le _)
  refine wpAnyH_take (i := 0) (oi := { dst := some 17, op := Go.Op.move (Go.Operand.tmp 0), type := 23, pos := "bag.go:57", after := #[], guard := none }) (v := ?_) rfl (by kernel_rfl) (by kernel_rfl) (by kernel_rfl) (fun _ _ _ h => h) (Or.inl ⟨by rfl, ?_⟩) (by assumption) ?_
  rotate_left
  · intro w hSw
    try dsimp only at hSw
    go_simp
    all_goals with_reducible rfl
  try simp only [Act.put, List.setIfInBounds_toArray, List.set_cons_zero, List.set_cons_succ]
  refine wpAnyH_take (i := 1) (oi := { dst := some 18, op := Go.Op.move (Go.Operand.tmp 0), type := 23, pos := "bag.go:57", after := #[], guard := none }) (v := ?_) rfl (by kernel_rfl) (by kernel_rfl) (by kernel_rfl) (fun _ _ _ h => h) (Or.inl ⟨by rfl, ?_⟩) (by assumption) ?_
  rotate_left
  · intro w hSw
    try dsimp only at hSw
    go_simp
    all_goals with_reducible rfl
  try simp only [Act.put, List.setIfInBounds_toArray, List.set_cons_zero, List.set_cons_succ]
  refine wpAnyH_take (i := 2) (oi := { dst := some 19, op := Go.Op.nilCheck (Go.Operand.tmp 18), type := 0, pos := "bag.go:57", after := #[{ on := 1, ground := Go.Ground.data }], guard := none }) (v := ?_) rfl (by kernel_rfl) (by kernel_rfl) (by kernel_rfl) (fun _ _ _ h => h) (Or.inl ⟨by rfl, ?_⟩) (by assumption) ?_
  rotate_left
  · intro w hSw
    try dsimp only at hSw
    go_simp
    all_goals with_reducible rfl
  try simp only [Act.put, List.setIfInBounds_toArray, List.set_cons_zero, List.set_cons_succ]
  refine wpAnyH_take (i := 3) (oi := { dst := some 20, op := Go.Op.fieldAddr 53 (Go.Operand.tmp 19) 0, type := 0, pos := "bag.go:57", after := #[{ on := 2, ground := Go.Ground.data }], guard := none }) (v := ?_) rfl (by kernel_rfl) (by kernel_rfl) (by kernel_rfl) (fun _ _ _ h => h) (Or.inl ⟨by rfl, ?_⟩) (by assumption) ?_
  rotate_left
  · intro w hSw
    try dsimp only at hSw
    go_simp
    all_goals with_reducible rfl
  try simp only [Act.put, List.setIfInBounds_toArray, List.set_cons_zero, List.set_cons_succ]
  refine wpAnyH_take (i := 5) (oi := { dst := some 22, op := Go.Op.move (Go.Operand.tmp 0), type := 23, pos := "bag.go:57", after := #[], guard := none }) (v := ?_) rfl (by kernel_rfl) (by kernel_rfl) (by kernel_rfl) (fun _ _ _ h => h) (Or.inl ⟨by rfl, ?_⟩) (by assumption) ?_
  rotate_left
  · intro w hSw
    try dsimp only at hSw
    go_simp
    all_goals with_reducible rfl
  try simp only [Act.put, List.setIfInBounds_toArray, List.set_cons_zero, List.set_cons_succ]
  refine wpAnyH_take (i := 6) (oi := { dst := some 23, op := Go.Op.nilCheck (Go.Operand.tmp 22), type := 0, pos := "bag.go:57", after := #[{ on := 5, ground := Go.Ground.data }], guard := none }) (v := ?_) rfl (by kernel_rfl) (by kernel_rfl) (by kernel_rfl) (fun _ _ _ h => h) (Or.inl ⟨by rfl, ?_⟩) (by assumption) ?_
  rotate_left
  · intro w hSw
    try dsimp only at hSw
    go_simp
    all_goals with_reducible rfl
  try simp only [Act.put, List.setIfInBounds_toArray, List.set_cons_zero, List.set_cons_succ]
  refine wpAnyH_take (i := 7) (oi := { dst := some 24, op := Go.Op.fieldAddr 53 (Go.Operand.tmp 23) 0, type := 0, pos := "bag.go:57", after := #[{ on := 6, ground := Go.Ground.data }], guard := none }) (v := ?_) rfl (by kernel_rfl) (by kernel_rfl) (by kernel_rfl) (fun _ _ _ h => h) (Or.inl ⟨by rfl, ?_⟩) (by assumption) ?_
  rotate_left
  · intro w hSw
    try dsimp only at hSw
    go_simp
    all_goals with_reducible rfl
  try simp only [Act.put, List.setIfInBounds_toArray, List.set_cons_zero, List.set_cons_succ]
  refine wpAnyH_take (i := 9) (oi := { dst := some 26, op := Go.Op.move (Go.Operand.tmp 1), type := 3, pos := "bag.go:57", after := #[], guard := none }) (v := ?_) rfl (by kernel_rfl) (by kernel_rfl) (by kernel_rfl) (fun _ _ _ h => h) (Or.inl ⟨by rfl, ?_⟩) (by assumption) ?_
  rotate_left
  · intro w hSw
    try dsimp only at hSw
    go_simp
    all_goals with_reducible rfl
  try simp only [Act.put, List.setIfInBounds_toArray, List.set_cons_zero, List.set_cons_succ]
  refine wpAnyH_ready (rs := [4, 8]) (by kernel_rfl) (by simp) ?_
  refine AllReadyH.cons (o := { dst := some 21, op := Go.Op.load 51 (Go.Operand.tmp 20), type := 51, pos := "bag.go:57", after := #[{ on := 3, ground := Go.Ground.data }], guard := none }) rfl (fun K hK => ?_) ?_
  · go_simp
    refine hK.out _ _ ?_ (fun hH => ?_)
    · exact (Nat.zero_le _)
    clear hK K
    try simp only [Act.put, List.setIfInBounds_toArray, List.set_cons_zero, List.set_cons_succ]
    refine wpAnyH_ready (rs := [8]) (by kernel_rfl) (by simp) ?_
    refine AllReadyH.cons (o := { dst := some 25, op := Go.Op.load 51 (Go.Operand.tmp 24), type := 51, pos := "bag.go:57", after := #[{ on := 7, ground := Go.Ground.data }], guard := none }) rfl (fun K hK => ?_) ?_
    · go_simp
      refine hK.out _ _ ?_ (fun hH => ?_)
      · exact (Nat.zero_le _)
      clear hK K
      try simp only [Act.put, List.setIfInBounds_toArray, List.set_cons_zero, List.set_cons_succ]
      refine wpAnyH_take (i := 10) (oi := { dst := some 27, op := Go.Op.indexAddr 51 (Go.Operand.tmp 25) (Go.Operand.tmp 26), type := 0, pos := "bag.go:57", after := #[{ on := 8, ground := Go.Ground.data }, { on := 9, ground := Go.Ground.data }], guard := none }) (v := ?_) rfl (by kernel_rfl) (by kernel_rfl) (by kernel_rfl) (fun _ _ _ h => h) (Or.inl ⟨by rfl, ?_⟩) (by assumption) ?_
      rotate_left
      · intro w hSw
        try dsimp only at hSw
        go_simp
        all_goals with_reducible rfl
      try simp only [Act.put, List.setIfInBounds_toArray, List.set_cons_zero, List.set_cons_succ]
      refine wpAnyH_ready (rs := [11]) (by kernel_rfl) (by simp) ?_
      refine AllReadyH.cons (o := { dst := some 28, op := Go.Op.load 60 (Go.Operand.tmp 27), type := 60, pos := "bag.go:57", after := #[{ on := 10, ground := Go.Ground.data }], guard := none }) rfl (fun K hK => ?_) ?_
      · go_simp
        refine hK.out _ _ ?_ (fun hH => ?_)
        · exact (Nat.zero_le _)
        clear hK K
        try simp only [Act.put, List.setIfInBounds_toArray, List.set_cons_zero, List.set_cons_succ]
        refine wpAnyH_ready (rs := [12]) (by kernel_rfl) (by simp) ?_
        refine AllReadyH.cons (o := { dst := some 29, op := Go.Op.buildSlice 51 1 #[(0, Go.Operand.tmp 28)], type := 51, pos := "bag.go:57", after := #[{ on := 11, ground := Go.Ground.data }], guard := none }) rfl (fun K hK => ?_) ?_
        · go_simp
          have HW1 : Hid (Below w.heap.size w (w.drew.alloc (.cells #[.int .i64 pf, .int .i64 pt, .string pd, .bool pm] 60))) := Lib.hid (Below.step HW0.out (.cells #[.int .i64 pf, .int .i64 pt, .string pd, .bool pm] 60) (Below.refl _ _))
          have ck1 : (w.alloc (.cells #[.int .i64 pf, .int .i64 pt, .string pd, .bool pm] 60)).cell? ⟨b, 0, none⟩ = some (Value.slice (some ⟨g, 0, none⟩) n c) := by
            have := (HBK.out.next HW1.out).c0
            rw [HN.out] at this
            exact this
          have HONE : Hid (KsAt (w.drew.alloc (.cells #[.int .i64 pf, .int .i64 pt, .string pd, .bool pm] 60)) (some ⟨w.heap.size, 0, none⟩) 1 [(pf, pt, pd, pm)]) := Lib.hid (ksAt_one w.drew pf pt pd pm)
          refine hK.out _ _ ?_ (fun hH => ?_)
          · exact (Nat.zero_le _)
          clear hK K
          try simp only [Act.put, List.setIfInBounds_toArray, List.set_cons_zero, List.set_cons_succ]
          refine wpAnyH_ready (rs := [13]) (by kernel_rfl) (by simp) ?_
          refine AllReadyH.cons (o := { dst := some 30, op := Go.Op.call { callee := Go.Callee.builtin Go.Builtin.append, args := #[Go.Operand.tmp 21, Go.Operand.tmp 29], argTypes := #[51, 51] }, type := 51, pos := "bag.go:57", after := #[{ on := 4, ground := Go.Ground.data }, { on := 12, ground := Go.Ground.data }], guard := none }) rfl (fun K hK => ?_) ?_
          · obtain ⟨a2, c2, w8, hrun, hrw8, hgr8, hown8⟩ := run_appK (w.drew.alloc (.cells #[.int .i64 pf, .int .i64 pt, .string pd, .bool pm] 60)) 51 B _ l (HBK.out.next HW1.out).row (some ⟨w.heap.size, 0, none⟩) 1 1 [(pf, pt, pd, pm)] HONE.out (Nat.le_refl _) (fun e => by cases e) (by have := HBK.out.ok.len; omega) (Nat.le_trans HLB.out HW1.out.size)
            rw [HN.out] at hrun hrw8
            have HFIN := Lib.hid (app_fin (p := (pf, pt, pd, pm)) HBK.out HW1.out hrw8 hgr8 HLT.out HSZ.out)
            have hb8 := HFIN.out.1
            have HOW := Lib.hid hown8
            have HBE := HW1
            have ck8 := cell_at hb8 0 _ rfl
            have fk8 := unfrozen_at hb8 0
            clear hrw8 hgr8 hb8 hown8
            refine step_append_run (by rfl) (.tmp 21) (.tmp 29) 51 rfl _ _ _ rfl rfl hrun ?_
            refine hK.out _ _ ?_ (fun hH => ?_)
            · exact (Nat.zero_le _)
            clear hK K
            try simp only [Act.put, List.setIfInBounds_toArray, List.set_cons_zero, List.set_cons_succ]
            refine wpAnyH_take (i := 14) (oi := { dst := some 31, op := Go.Op.nilCheck (Go.Operand.tmp 17), type := 0, pos := "bag.go:57", after := #[{ on := 0, ground := Go.Ground.data }, { on := 0, ground := Go.Ground.phase }, { on := 1, ground := Go.Ground.phase }, { on := 2, ground := Go.Ground.phase }, { on := 3, ground := Go.Ground.phase }, { on := 4, ground := Go.Ground.phase }, { on := 5, ground := Go.Ground.phase }, { on := 6, ground := Go.Ground.phase }, { on := 7, ground := Go.Ground.phase }, { on := 8, ground := Go.Ground.phase }, { on := 9, ground := Go.Ground.phase }, { on := 10, ground := Go.Ground.phase }, { on := 11, ground := Go.Ground.phase }, { on := 12, ground := Go.Ground.phase }, { on := 13, ground := Go.Ground.phase }], guard := none }) (v := ?_) rfl (by kernel_rfl) (by kernel_rfl) (by kernel_rfl) (fun _ _ _ h => h) (Or.inl ⟨by rfl, ?_⟩) (by assumption) ?_
            rotate_left
            · intro w hSw
              try dsimp only at hSw
              go_simp
              all_goals with_reducible rfl
            try simp only [Act.put, List.setIfInBounds_toArray, List.set_cons_zero, List.set_cons_succ]
            refine wpAnyH_take (i := 15) (oi := { dst := some 32, op := Go.Op.fieldAddr 53 (Go.Operand.tmp 31) 0, type := 0, pos := "bag.go:57", after := #[{ on := 14, ground := Go.Ground.data }, { on := 0, ground := Go.Ground.phase }, { on := 1, ground := Go.Ground.phase }, { on := 2, ground := Go.Ground.phase }, { on := 3, ground := Go.Ground.phase }, { on := 4, ground := Go.Ground.phase }, { on := 5, ground := Go.Ground.phase }, { on := 6, ground := Go.Ground.phase }, { on := 7, ground := Go.Ground.phase }, { on := 8, ground := Go.Ground.phase }, { on := 9, ground := Go.Ground.phase }, { on := 10, ground := Go.Ground.phase }, { on := 11, ground := Go.Ground.phase }, { on := 12, ground := Go.Ground.phase }, { on := 13, ground := Go.Ground.phase }], guard := none }) (v := ?_) rfl (by kernel_rfl) (by kernel_rfl) (by kernel_rfl) (fun _ _ _ h => h) (Or.inl ⟨by rfl, ?_⟩) (by assumption) ?_
            rotate_left
            · intro w hSw
              try dsimp only at hSw
              go_simp
              all_goals with_reducible rfl
            try simp only [Act.put, List.setIfInBounds_toArray, List.set_cons_zero, List.set_cons_succ]
            refine wpAnyH_ready (rs := [16]) (by kernel_rfl) (by simp) ?_
            refine AllReadyH.cons (o := { dst := none, op := Go.Op.store 51 (Go.Operand.tmp 32) (Go.Operand.tmp 30), type := 0, pos := "bag.go:57", after := #[{ on := 15, ground := Go.Ground.data }, { on := 13, ground := Go.Ground.data }, { on := 13, ground := Go.Ground.chain }, { on := 0, ground := Go.Ground.phase }, { on := 1, ground := Go.Ground.phase }, { on := 2, ground := Go.Ground.phase }, { on := 3, ground := Go.Ground.phase }, { on := 4, ground := Go.Ground.phase }, { on := 5, ground := Go.Ground.phase }, { on := 6, ground := Go.Ground.phase }, { on := 7, ground := Go.Ground.phase }, { on := 8, ground := Go.Ground.phase }, { on := 9, ground := Go.Ground.phase }, { on := 10, ground := Go.Ground.phase }, { on := 11, ground := Go.Ground.phase }, { on := 12, ground := Go.Ground.phase }, { on := 13, ground := Go.Ground.phase }], guard := none }) rfl (fun K hK => ?_) ?_
            · go_simp
              refine hK.out _ _ ?_ (fun hH => ?_)
              · exact (Nat.zero_le _)
              clear hK K
              try simp only [Act.put, List.setIfInBounds_toArray, List.set_cons_zero, List.set_cons_succ]
              refine wpAnyH_done (by kernel_rfl) ?_ _
              clear hrun ck8 fk8
              go_wp2
              go_ret
              exact ⟨rfl, ⟨_, HFIN.out.2.1⟩, HFIN.out.2.2⟩
            exact AllReadyH.nil
          exact AllReadyH.nil
        exact AllReadyH.nil
      exact AllReadyH.nil
    exact AllReadyH.nil
  refine AllReadyH.cons (o := { dst := some 25, op := Go.Op.load 51 (Go.Operand.tmp 24), type := 51, pos := "bag.go:57", after := #[{ on := 7, ground := Go.Ground.data }], guard := none }) rfl (fun K hK => ?_) ?_
  · go_simp
    refine hK.out _ _ ?_ (fun hH => ?_)
    · exact (Nat.zero_le _)
    clear hK K
    try simp only [Act.put, List.setIfInBounds_toArray, List.set_cons_zero, List.set_cons_succ]
    refine wpAnyH_take (i := 10) (oi := { dst := some 27, op := Go.Op.indexAddr 51 (Go.Operand.tmp 25) (Go.Operand.tmp 26), type := 0, pos := "bag.go:57", after := #[{ on := 8, ground := Go.Ground.data }, { on := 9, ground := Go.Ground.data }], guard := none }) (v := ?_) rfl (by kernel_rfl) (by kernel_rfl) (by kernel_rfl) (fun _ _ _ h => h) (Or.inl ⟨by rfl, ?_⟩) (by assumption) ?_
    rotate_left
    · intro w hSw
      try dsimp only at hSw
      go_simp
      all_goals with_reducible rfl
    try simp only [Act.put, List.setIfInBounds_toArray, List.set_cons_zero, List.set_cons_succ]
    refine wpAnyH_ready (rs := [4, 11]) (by kernel_rfl) (by simp) ?_
    refine AllReadyH.cons (o := { dst := some 21, op := Go.Op.load 51 (Go.Operand.tmp 20), type := 51, pos := "bag.go:57", after := #[{ on := 3, ground := Go.Ground.data }], guard := none }) rfl (fun K hK => ?_) ?_
    · go_simp
      refine hK.out _ _ ?_ (fun hH => ?_)
      · exact (Nat.zero_le _)
      clear hK K
      try simp only [Act.put, List.setIfInBounds_toArray, List.set_cons_zero, List.set_cons_succ]
      refine wpAnyH_ready (rs := [11]) (by kernel_rfl) (by simp) ?_
      refine AllReadyH.cons (o := { dst := some 28, op := Go.Op.load 60 (Go.Operand.tmp 27), type := 60, pos := "bag.go:57", after := #[{ on := 10, ground := Go.Ground.data }], guard := none }) rfl (fun K hK => ?_) ?_
      · go_simp
        refine hK.out _ _ ?_ (fun hH => ?_)
        · exact (Nat.zero_le _)
        clear hK K
        try simp only [Act.put, List.setIfInBounds_toArray, List.set_cons_zero, List.set_cons_succ]
        refine wpAnyH_ready (rs := [12]) (by kernel_rfl) (by simp) ?_
        refine AllReadyH.cons (o := { dst := some 29, op := Go.Op.buildSlice 51 1 #[(0, Go.Operand.tmp 28)], type := 51, pos := "bag.go:57", after := #[{ on := 11, ground := Go.Ground.data }], guard := none }) rfl (fun K hK => ?_) ?_
        · go_simp
          have HW1 : Hid (Below w.heap.size w (w.drew.alloc (.cells #[.int .i64 pf, .int .i64 pt, .string pd, .bool pm] 60))) := Lib.hid (Below.step HW0.out (.cells #[.int .i64 pf, .int .i64 pt, .string pd, .bool pm] 60) (Below.refl _ _))
          have ck1 : (w.alloc (.cells #[.int .i64 pf, .int .i64 pt, .string pd, .bool pm] 60)).cell? ⟨b, 0, none⟩ = some (Value.slice (some ⟨g, 0, none⟩) n c) := by
            have := (HBK.out.next HW1.out).c0
            rw [HN.out] at this
            exact this
          have HONE : Hid (KsAt (w.drew.alloc (.cells #[.int .i64 pf, .int .i64 pt, .string pd, .bool pm] 60)) (some ⟨w.heap.size, 0, none⟩) 1 [(pf, pt, pd, pm)]) := Lib.hid (ksAt_one w.drew pf pt pd pm)
          refine hK.out _ _ ?_ (fun hH => ?_)
          · exact (Nat.zero_le _)
          clear hK K
          try simp only [Act.put, List.setIfInBounds_toArray, List.set_cons_zero, List.set_cons_succ]
          refine wpAnyH_ready (rs := [13]) (by kernel_rfl) (by simp) ?_
          refine AllReadyH.cons (o := { dst := some 30, op := Go.Op.call { callee := Go.Callee.builtin Go.Builtin.append, args := #[Go.Operand.tmp 21, Go.Operand.tmp 29], argTypes := #[51, 51] }, type := 51, pos := "bag.go:57", after := #[{ on := 4, ground := Go.Ground.data }, { on := 12, ground := Go.Ground.data }], guard := none }) rfl (fun K hK => ?_) ?_
          · obtain ⟨a2, c2, w8, hrun, hrw8, hgr8, hown8⟩ := run_appK (w.drew.alloc (.cells #[.int .i64 pf, .int .i64 pt, .string pd, .bool pm] 60)) 51 B _ l (HBK.out.next HW1.out).row (some ⟨w.heap.size, 0, none⟩) 1 1 [(pf, pt, pd, pm)] HONE.out (Nat.le_refl _) (fun e => by cases e) (by have := HBK.out.ok.len; omega) (Nat.le_trans HLB.out HW1.out.size)
            rw [HN.out] at hrun hrw8
            have HFIN := Lib.hid (app_fin (p := (pf, pt, pd, pm)) HBK.out HW1.out hrw8 hgr8 HLT.out HSZ.out)
            have hb8 := HFIN.out.1
            have HOW := Lib.hid hown8
            have HBE := HW1
            have ck8 := cell_at hb8 0 _ rfl
            have fk8 := unfrozen_at hb8 0
            clear hrw8 hgr8 hb8 hown8
            refine step_append_run (by rfl) (.tmp 21) (.tmp 29) 51 rfl _ _ _ rfl rfl hrun ?_
            refine hK.out _ _ ?_ (fun hH => ?_)
            · exact (Nat.zero_le _)
            clear hK K
            try simp only [Act.put, List.setIfInBounds_toArray, List.set_cons_zero, List.set_cons_succ]
            refine wpAnyH_take (i := 14) (oi := { dst := some 31, op := Go.Op.nilCheck (Go.Operand.tmp 17), type := 0, pos := "bag.go:57", after := #[{ on := 0, ground := Go.Ground.data }, { on := 0, ground := Go.Ground.phase }, { on := 1, ground := Go.Ground.phase }, { on := 2, ground := Go.Ground.phase }, { on := 3, ground := Go.Ground.phase }, { on := 4, ground := Go.Ground.phase }, { on := 5, ground := Go.Ground.phase }, { on := 6, ground := Go.Ground.phase }, { on := 7, ground := Go.Ground.phase }, { on := 8, ground := Go.Ground.phase }, { on := 9, ground := Go.Ground.phase }, { on := 10, ground := Go.Ground.phase }, { on := 11, ground := Go.Ground.phase }, { on := 12, ground := Go.Ground.phase }, { on := 13, ground := Go.Ground.phase }], guard := none }) (v := ?_) rfl (by kernel_rfl) (by kernel_rfl) (by kernel_rfl) (fun _ _ _ h => h) (Or.inl ⟨by rfl, ?_⟩) (by assumption) ?_
            rotate_left
            · intro w hSw
              try dsimp only at hSw
              go_simp
              all_goals with_reducible rfl
            try simp only [Act.put, List.setIfInBounds_toArray, List.set_cons_zero, List.set_cons_succ]
            refine wpAnyH_take (i := 15) (oi := { dst := some 32, op := Go.Op.fieldAddr 53 (Go.Operand.tmp 31) 0, type := 0, pos := "bag.go:57", after := #[{ on := 14, ground := Go.Ground.data }, { on := 0, ground := Go.Ground.phase }, { on := 1, ground := Go.Ground.phase }, { on := 2, ground := Go.Ground.phase }, { on := 3, ground := Go.Ground.phase }, { on := 4, ground := Go.Ground.phase }, { on := 5, ground := Go.Ground.phase }, { on := 6, ground := Go.Ground.phase }, { on := 7, ground := Go.Ground.phase }, { on := 8, ground := Go.Ground.phase }, { on := 9, ground := Go.Ground.phase }, { on := 10, ground := Go.Ground.phase }, { on := 11, ground := Go.Ground.phase }, { on := 12, ground := Go.Ground.phase }, { on := 13, ground := Go.Ground.phase }], guard := none }) (v := ?_) rfl (by kernel_rfl) (by kernel_rfl) (by kernel_rfl) (fun _ _ _ h => h) (Or.inl ⟨by rfl, ?_⟩) (by assumption) ?_
            rotate_left
            · intro w hSw
              try dsimp only at hSw
              go_simp
              all_goals with_reducible rfl
            try simp only [Act.put, List.setIfInBounds_toArray, List.set_cons_zero, List.set_cons_succ]
            refine wpAnyH_ready (rs := [16]) (by kernel_rfl) (by simp) ?_
            refine AllReadyH.cons (o := { dst := none, op := Go.Op.store 51 (Go.Operand.tmp 32) (Go.Operand.tmp 30), type := 0, pos := "bag.go:57", after := #[{ on := 15, ground := Go.Ground.data }, { on := 13, ground := Go.Ground.data }, { on := 13, ground := Go.Ground.chain }, { on := 0, ground := Go.Ground.phase }, { on := 1, ground := Go.Ground.phase }, { on := 2, ground := Go.Ground.phase }, { on := 3, ground := Go.Ground.phase }, { on := 4, ground := Go.Ground.phase }, { on := 5, ground := Go.Ground.phase }, { on := 6, ground := Go.Ground.phase }, { on := 7, ground := Go.Ground.phase }, { on := 8, ground := Go.Ground.phase }, { on := 9, ground := Go.Ground.phase }, { on := 10, ground := Go.Ground.phase }, { on := 11, ground := Go.Ground.phase }, { on := 12, ground := Go.Ground.phase }, { on := 13, ground := Go.Ground.phase }], guard := none }) rfl (fun K hK => ?_) ?_
            · go_simp
              refine hK.out _ _ ?_ (fun hH => ?_)
              · exact (Nat.zero_le _)
              clear hK K
              try simp only [Act.put, List.setIfInBounds_toArray, List.set_cons_zero, List.set_cons_succ]
              refine wpAnyH_done (by kernel_rfl) ?_ _
              clear hrun ck8 fk8
              go_wp2
              go_ret
              exact ⟨rfl, ⟨_, HFIN.out.2.1⟩, HFIN.out.2.2⟩
            exact AllReadyH.nil
          exact AllReadyH.nil
        exact AllReadyH.nil
      exact AllReadyH.nil
    refine AllReadyH.cons (o := { dst := some 28, op := Go.Op.load 60 (Go.Operand.tmp 27), type := 60, pos := "bag.go:57", after := #[{ on := 10, ground := Go.Ground.data }], guard := none }) rfl (fun K hK => ?_) ?_
    · go_simp
      refine hK.out _ _ ?_ (fun hH => ?_)
      · exact (Nat.zero_le _)
      clear hK K
      try simp only [Act.put, List.setIfInBounds_toArray, List.set_cons_zero, List.set_cons_succ]
      refine wpAnyH_ready (rs := [4, 12]) (by kernel_rfl) (by simp) ?_
      refine AllReadyH.cons (o := { dst := some 21, op := Go.Op.load 51 (Go.Operand.tmp 20), type := 51, pos := "bag.go:57", after := #[{ on := 3, ground := Go.Ground.data }], guard := none }) rfl (fun K hK => ?_) ?_
      · go_simp
        refine hK.out _ _ ?_ (fun hH => ?_)
        · exact (Nat.zero_le _)
        clear hK K
        try simp only [Act.put, List.setIfInBounds_toArray, List.set_cons_zero, List.set_cons_succ]
        refine wpAnyH_ready (rs := [12]) (by kernel_rfl) (by simp) ?_
        refine AllReadyH.cons (o := { dst := some 29, op := Go.Op.buildSlice 51 1 #[(0, Go.Operand.tmp 28)], type := 51, pos := "bag.go:57", after := #[{ on := 11, ground := Go.Ground.data }], guard := none }) rfl (fun K hK => ?_) ?_
        · go_simp
          have HW1 : Hid (Below w.heap.size w (w.drew.alloc (.cells #[.int .i64 pf, .int .i64 pt, .string pd, .bool pm] 60))) := Lib.hid (Below.step HW0.out (.cells #[.int .i64 pf, .int .i64 pt, .string pd, .bool pm] 60) (Below.refl _ _))
          have ck1 : (w.alloc (.cells #[.int .i64 pf, .int .i64 pt, .string pd, .bool pm] 60)).cell? ⟨b, 0, none⟩ = some (Value.slice (some ⟨g, 0, none⟩) n c) := by
            have := (HBK.out.next HW1.out).c0
            rw [HN.out] at this
            exact this
          have HONE : Hid (KsAt (w.drew.alloc (.cells #[.int .i64 pf, .int .i64 pt, .string pd, .bool pm] 60)) (some ⟨w.heap.size, 0, none⟩) 1 [(pf, pt, pd, pm)]) := Lib.hid (ksAt_one w.drew pf pt pd pm)
          refine hK.out _ _ ?_ (fun hH => ?_)
          · exact (Nat.zero_le _)
          clear hK K
          try simp only [Act.put, List.setIfInBounds_toArray, List.set_cons_zero, List.set_cons_succ]
          refine wpAnyH_ready (rs := [13]) (by kernel_rfl) (by simp) ?_
          refine AllReadyH.cons (o := { dst := some 30, op := Go.Op.call { callee := Go.Callee.builtin Go.Builtin.append, args := #[Go.Operand.tmp 21, Go.Operand.tmp 29], argTypes := #[51, 51] }, type := 51, pos := "bag.go:57", after := #[{ on := 4, ground := Go.Ground.data }, { on := 12, ground := Go.Ground.data }], guard := none }) rfl (fun K hK => ?_) ?_
          · obtain ⟨a2, c2, w8, hrun, hrw8, hgr8, hown8⟩ := run_appK (w.drew.alloc (.cells #[.int .i64 pf, .int .i64 pt, .string pd, .bool pm] 60)) 51 B _ l (HBK.out.next HW1.out).row (some ⟨w.heap.size, 0, none⟩) 1 1 [(pf, pt, pd, pm)] HONE.out (Nat.le_refl _) (fun e => by cases e) (by have := HBK.out.ok.len; omega) (Nat.le_trans HLB.out HW1.out.size)
            rw [HN.out] at hrun hrw8
            have HFIN := Lib.hid (app_fin (p := (pf, pt, pd, pm)) HBK.out HW1.out hrw8 hgr8 HLT.out HSZ.out)
            have hb8 := HFIN.out.1
            have HOW := Lib.hid hown8
            have HBE := HW1
            have ck8 := cell_at hb8 0 _ rfl
            have fk8 := unfrozen_at hb8 0
            clear hrw8 hgr8 hb8 hown8
            refine step_append_run (by rfl) (.tmp 21) (.tmp 29) 51 rfl _ _ _ rfl rfl hrun ?_
            refine hK.out _ _ ?_ (fun hH => ?_)
            · exact (Nat.zero_le _)
            clear hK K
            try simp only [Act.put, List.setIfInBounds_toArray, List.set_cons_zero, List.set_cons_succ]
            refine wpAnyH_take (i := 14) (oi := { dst := some 31, op := Go.Op.nilCheck (Go.Operand.tmp 17), type := 0, pos := "bag.go:57", after := #[{ on := 0, ground := Go.Ground.data }, { on := 0, ground := Go.Ground.phase }, { on := 1, ground := Go.Ground.phase }, { on := 2, ground := Go.Ground.phase }, { on := 3, ground := Go.Ground.phase }, { on := 4, ground := Go.Ground.phase }, { on := 5, ground := Go.Ground.phase }, { on := 6, ground := Go.Ground.phase }, { on := 7, ground := Go.Ground.phase }, { on := 8, ground := Go.Ground.phase }, { on := 9, ground := Go.Ground.phase }, { on := 10, ground := Go.Ground.phase }, { on := 11, ground := Go.Ground.phase }, { on := 12, ground := Go.Ground.phase }, { on := 13, ground := Go.Ground.phase }], guard := none }) (v := ?_) rfl (by kernel_rfl) (by kernel_rfl) (by kernel_rfl) (fun _ _ _ h => h) (Or.inl ⟨by rfl, ?_⟩) (by assumption) ?_
            rotate_left
            · intro w hSw
              try dsimp only at hSw
              go_simp
              all_goals with_reducible rfl
            try simp only [Act.put, List.setIfInBounds_toArray, List.set_cons_zero, List.set_cons_succ]
            refine wpAnyH_take (i := 15) (oi := { dst := some 32, op := Go.Op.fieldAddr 53 (Go.Operand.tmp 31) 0, type := 0, pos := "bag.go:57", after := #[{ on := 14, ground := Go.Ground.data }, { on := 0, ground := Go.Ground.phase }, { on := 1, ground := Go.Ground.phase }, { on := 2, ground := Go.Ground.phase }, { on := 3, ground := Go.Ground.phase }, { on := 4, ground := Go.Ground.phase }, { on := 5, ground := Go.Ground.phase }, { on := 6, ground := Go.Ground.phase }, { on := 7, ground := Go.Ground.phase }, { on := 8, ground := Go.Ground.phase }, { on := 9, ground := Go.Ground.phase }, { on := 10, ground := Go.Ground.phase }, { on := 11, ground := Go.Ground.phase }, { on := 12, ground := Go.Ground.phase }, { on := 13, ground := Go.Ground.phase }], guard := none }) (v := ?_) rfl (by kernel_rfl) (by kernel_rfl) (by kernel_rfl) (fun _ _ _ h => h) (Or.inl ⟨by rfl, ?_⟩) (by assumption) ?_
            rotate_left
            · intro w hSw
              try dsimp only at hSw
              go_simp
              all_goals with_reducible rfl
            try simp only [Act.put, List.setIfInBounds_toArray, List.set_cons_zero, List.set_cons_succ]
            refine wpAnyH_ready (rs := [16]) (by kernel_rfl) (by simp) ?_
            refine AllReadyH.cons (o := { dst := none, op := Go.Op.store 51 (Go.Operand.tmp 32) (Go.Operand.tmp 30), type := 0, pos := "bag.go:57", after := #[{ on := 15, ground := Go.Ground.data }, { on := 13, ground := Go.Ground.data }, { on := 13, ground := Go.Ground.chain }, { on := 0, ground := Go.Ground.phase }, { on := 1, ground := Go.Ground.phase }, { on := 2, ground := Go.Ground.phase }, { on := 3, ground := Go.Ground.phase }, { on := 4, ground := Go.Ground.phase }, { on := 5, ground := Go.Ground.phase }, { on := 6, ground := Go.Ground.phase }, { on := 7, ground := Go.Ground.phase }, { on := 8, ground := Go.Ground.phase }, { on := 9, ground := Go.Ground.phase }, { on := 10, ground := Go.Ground.phase }, { on := 11, ground := Go.Ground.phase }, { on := 12, ground := Go.Ground.phase }, { on := 13, ground := Go.Ground.phase }], guard := none }) rfl (fun K hK => ?_) ?_
            · go_simp
              refine hK.out _ _ ?_ (fun hH => ?_)
              · exact (Nat.zero_le _)
              clear hK K
              try simp only [Act.put, List.setIfInBounds_toArray, List.set_cons_zero, List.set_cons_succ]
              refine wpAnyH_done (by kernel_rfl) ?_ _
              clear hrun ck8 fk8
              go_wp2
              go_ret
              exact ⟨rfl, ⟨_, HFIN.out.2.1⟩, HFIN.out.2.2⟩
            exact AllReadyH.nil
          exact AllReadyH.nil
        exact AllReadyH.nil
      refine AllReadyH.cons (o := { dst := some 29, op := Go.Op.buildSlice 51 1 #[(0, Go.Operand.tmp 28)], type := 51, pos := "bag.go:57", after := #[{ on := 11, ground := Go.Ground.data }], guard := none }) rfl (fun K hK => ?_) ?_
      · go_simp
        have HW1 : Hid (Below w.heap.size w (w.drew.alloc (.cells #[.int .i64 pf, .int .i64 pt, .string pd, .bool pm] 60))) := Lib.hid (Below.step HW0.out (.cells #[.int .i64 pf, .int .i64 pt, .string pd, .bool pm] 60) (Below.refl _ _))
        have ck1 : (w.alloc (.cells #[.int .i64 pf, .int .i64 pt, .string pd, .bool pm] 60)).cell? ⟨b, 0, none⟩ = some (Value.slice (some ⟨g, 0, none⟩) n c) := by
          have := (HBK.out.next HW1.out).c0
          rw [HN.out] at this
          exact this
        have HONE : Hid (KsAt (w.drew.alloc (.cells #[.int .i64 pf, .int .i64 pt, .string pd, .bool pm] 60)) (some ⟨w.heap.size, 0, none⟩) 1 [(pf, pt, pd, pm)]) := Lib.hid (ksAt_one w.drew pf pt pd pm)
        refine hK.out _ _ ?_ (fun hH => ?_)
        · exact (Nat.zero_le _)
        clear hK K
        try simp only [Act.put, List.setIfInBounds_toArray, List.set_cons_zero, List.set_cons_succ]
        refine wpAnyH_ready (rs := [4]) (by kernel_rfl) (by simp) ?_
        refine AllReadyH.cons (o := { dst := some 21, op := Go.Op.load 51 (Go.Operand.tmp 20), type := 51, pos := "bag.go:57", after := #[{ on := 3, ground := Go.Ground.data }], guard := none }) rfl (fun K hK => ?_) ?_
        · go_simp
          refine hK.out _ _ ?_ (fun hH => ?_)
          · exact (Nat.zero_le _)
          clear hK K
          try simp only [Act.put, List.setIfInBounds_toArray, List.set_cons_zero, List.set_cons_succ]
          refine wpAnyH_ready (rs := [13]) (by kernel_rfl) (by simp) ?_
          refine AllReadyH.cons (o := { dst := some 30, op := Go.Op.call { callee := Go.Callee.builtin Go.Builtin.append, args := #[Go.Operand.tmp 21, Go.Operand.tmp 29], argTypes := #[51, 51] }, type := 51, pos := "bag.go:57", after := #[{ on := 4, ground := Go.Ground.data }, { on := 12, ground := Go.Ground.data }], guard := none }) rfl (fun K hK => ?_) ?_
          · obtain ⟨a2, c2, w8, hrun, hrw8, hgr8, hown8⟩ := run_appK (w.drew.alloc (.cells #[.int .i64 pf, .int .i64 pt, .string pd, .bool pm] 60)) 51 B _ l (HBK.out.next HW1.out).row (some ⟨w.heap.size, 0, none⟩) 1 1 [(pf, pt, pd, pm)] HONE.out (Nat.le_refl _) (fun e => by cases e) (by have := HBK.out.ok.len; omega) (Nat.le_trans HLB.out HW1.out.size)
            rw [HN.out] at hrun hrw8
            have HFIN := Lib.hid (app_fin (p := (pf, pt, pd, pm)) HBK.out HW1.out hrw8 hgr8 HLT.out HSZ.out)
            have hb8 := HFIN.out.1
            have HOW := Lib.hid hown8
            have HBE := HW1
            have ck8 := cell_at hb8 0 _ rfl
            have fk8 := unfrozen_at hb8 0
            clear hrw8 hgr8 hb8 hown8
            refine step_append_run (by rfl) (.tmp 21) (.tmp 29) 51 rfl _ _ _ rfl rfl hrun ?_
            refine hK.out _ _ ?_ (fun hH => ?_)
            · exact (Nat.zero_le _)
            clear hK K
            try simp only [Act.put, List.setIfInBounds_toArray, List.set_cons_zero, List.set_cons_succ]
            refine wpAnyH_take (i := 14) (oi := { dst := some 31, op := Go.Op.nilCheck (Go.Operand.tmp 17), type := 0, pos := "bag.go:57", after := #[{ on := 0, ground := Go.Ground.data }, { on := 0, ground := Go.Ground.phase }, { on := 1, ground := Go.Ground.phase }, { on := 2, ground := Go.Ground.phase }, { on := 3, ground := Go.Ground.phase }, { on := 4, ground := Go.Ground.phase }, { on := 5, ground := Go.Ground.phase }, { on := 6, ground := Go.Ground.phase }, { on := 7, ground := Go.Ground.phase }, { on := 8, ground := Go.Ground.phase }, { on := 9, ground := Go.Ground.phase }, { on := 10, ground := Go.Ground.phase }, { on := 11, ground := Go.Ground.phase }, { on := 12, ground := Go.Ground.phase }, { on := 13, ground := Go.Ground.phase }], guard := none }) (v := ?_) rfl (by kernel_rfl) (by kernel_rfl) (by kernel_rfl) (fun _ _ _ h => h) (Or.inl ⟨by rfl, ?_⟩) (by assumption) ?_
            rotate_left
            · intro w hSw
              try dsimp only at hSw
              go_simp
              all_goals with_reducible rfl
            try simp only [Act.put, List.setIfInBounds_toArray, List.set_cons_zero, List.set_cons_succ]
            refine wpAnyH_take (i := 15) (oi := { dst := some 32, op := Go.Op.fieldAddr 53 (Go.Operand.tmp 31) 0, type := 0, pos := "bag.go:57", after := #[{ on := 14, ground := Go.Ground.data }, { on := 0, ground := Go.Ground.phase }, { on := 1, ground := Go.Ground.phase }, { on := 2, ground := Go.Ground.phase }, { on := 3, ground := Go.Ground.phase }, { on := 4, ground := Go.Ground.phase }, { on := 5, ground := Go.Ground.phase }, { on := 6, ground := Go.Ground.phase }, { on := 7, ground := Go.Ground.phase }, { on := 8, ground := Go.Ground.phase }, { on := 9, ground := Go.Ground.phase }, { on := 10, ground := Go.Ground.phase }, { on := 11, ground := Go.Ground.phase }, { on := 12, ground := Go.Ground.phase }, { on := 13, ground := Go.Ground.phase }], guard := none }) (v := ?_) rfl (by kernel_rfl) (by kernel_rfl) (by kernel_rfl) (fun _ _ _ h => h) (Or.inl ⟨by rfl, ?_⟩) (by assumption) ?_
            rotate_left
            · intro w hSw
              try dsimp only at hSw
              go_simp
              all_goals with_reducible rfl
            try simp only [Act.put, List.setIfInBounds_toArray, List.set_cons_zero, List.set_cons_succ]
            refine wpAnyH_ready (rs := [16]) (by kernel_rfl) (by simp) ?_
            refine AllReadyH.cons (o := { dst := none, op := Go.Op.store 51 (Go.Operand.tmp 32) (Go.Operand.tmp 30), type := 0, pos := "bag.go:57", after := #[{ on := 15, ground := Go.Ground.data }, { on := 13, ground := Go.Ground.data }, { on := 13, ground := Go.Ground.chain }, { on := 0, ground := Go.Ground.phase }, { on := 1, ground := Go.Ground.phase }, { on := 2, ground := Go.Ground.phase }, { on := 3, ground := Go.Ground.phase }, { on := 4, ground := Go.Ground.phase }, { on := 5, ground := Go.Ground.phase }, { on := 6, ground := Go.Ground.phase }, { on := 7, ground := Go.Ground.phase }, { on := 8, ground := Go.Ground.phase }, { on := 9, ground := Go.Ground.phase }, { on := 10, ground := Go.Ground.phase }, { on := 11, ground := Go.Ground.phase }, { on := 12, ground := Go.Ground.phase }, { on := 13, ground := Go.Ground.phase }], guard := none }) rfl (fun K hK => ?_) ?_
            · go_simp
              refine hK.out _ _ ?_ (fun hH => ?_)
              · exact (Nat.zero_le _)
              clear hK K
              try simp only [Act.put, List.setIfInBounds_toArray, List.set_cons_zero, List.set_cons_succ]
              refine wpAnyH_done (by kernel_rfl) ?_ _
              clear hrun ck8 fk8
              go_wp2
              go_ret
              exact ⟨rfl, ⟨_, HFIN.out.2.1⟩, HFIN.out.2.2⟩
            exact AllReadyH.nil
          exact AllReadyH.nil
        exact AllReadyH.nil
      exact AllReadyH.nil
    exact AllReadyH.nil
  exact AllReadyH.nil
end
end Go.Proofs.Ytjnjpphbclepbaa
