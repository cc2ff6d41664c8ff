/- The document's Read, way by way. -/
import Derived.Test.YtcknklodnfabpaaDoorQU2
import Derived.Test.YtcknklodnfabpaaDoorUM
namespace Go.Proofs.YtcknklodnfabpaaDoor
open Go Go.RowKit
theorem Rm.setnew {w b B A e} (h : Rm w b B A e) {k : Nat} (hk : b ≠ k) (i : Nat) (v : Value) : Rm (w.setCell ⟨k, i, none⟩ v) b B A e := (Below.heap_setCell _ _ _ _ hk).trans h
theorem Rm.alloc {w b B A e} (h : Rm w b B A e) (o : Obj) : Rm (w.alloc o) b B A e := (Below.heap_alloc _ _ _ h.lt).trans h
theorem Rm.set4 {c : World} {b B A e} (h : Rm c b B A e) {k : Nat} (hk : b ≠ k) (v0 v1 v2 v3 : Value) : Rm ((((c.setCell ⟨k, 0, none⟩ v0).setCell ⟨k, 1, none⟩ v1).setCell ⟨k, 2, none⟩ v2).setCell ⟨k, 3, none⟩ v3) b B A e :=
  (((h.setnew hk _ _).setnew hk _ _).setnew hk _ _).setnew hk _ _
/-- How it stands within the document's Read, ahead of the update's own block. -/
structure RT (w W : World) (b : Nat) (B : ByteArray) (A : Nat) (E : Int) : Prop where
  lt : b < w.heap.size
  rm : Rm W b B A E
  out : Ub W w.heap.size up0
  non : Ub W (w.heap.size + 1) up0
  g : w.grownBy W (some b)
theorem RT.start {w : World} {b : Nat} {B : ByteArray} {A : Nat} {E : Int} (h : Rm w b B A E) : RT w ((w.alloc (.cells #[.string ⟨#[]⟩, .int .i64 0, .int .i64 0, .string ⟨#[]⟩] 45)).alloc (.cells #[.string ⟨#[]⟩, .int .i64 0, .int .i64 0, .string ⟨#[]⟩] 45)) b B A E :=
  ⟨h.lt, (h.alloc _).alloc _, (two_new w).1, (two_new w).2, grown_trans (grown_alloc w _ _) (grown_alloc _ _ _)⟩
theorem RT.big {w W : World} {b : Nat} {B : ByteArray} {A : Nat} {E : Int} (h : RT w W b B A E) : w.heap.size + 1 < W.heap.size := h.non.lt
theorem RT.call {w W W' : World} {b : Nat} {B : ByteArray} {A A' : Nat} {E E' : Int} (h : RT w W b B A E) (hr : Rm W' b B A' E') (hg : W.grownBy W' (some b)) : RT w W' b B A' E' :=
  have hlt := h.lt
  ⟨h.lt, hr, h.out.kept hg (by simp; omega), h.non.kept hg (by simp; omega), grown_trans h.g hg⟩
theorem RT.fail {w W : World} {b : Nat} {B : ByteArray} {A : Nat} {E : Int} (h : RT w W b B A E) (e : Int) : RT w (W.setCell ⟨b, 2, none⟩ (.int .i64 e)) b B A e :=
  h.call (h.rm.set2 e) (grown_set _ _ _ _)
/-- .. and behind it. -/
structure RU (w W : World) (b : Nat) (B : ByteArray) (A : Nat) (E : Int) (p : Nat) (u : Up) : Prop where
  t : RT w W b B A E
  hp : w.heap.size + 1 < p
  upd : Ub W p u
theorem RT.make {w W : World} {b : Nat} {B : ByteArray} {A : Nat} {E : Int} (h : RT w W b B A E) (y : ByteArray) (k : Int) : RU w (W.alloc (.cells #[.string y, .int .i64 k, .int .i64 0, .string ⟨#[]⟩] 45)) b B A E W.heap.size (y, k, 0, ⟨#[]⟩) :=
  ⟨⟨h.lt, h.rm.alloc _, h.out.alloc _, h.non.alloc _, grown_trans h.g (grown_alloc _ _ _)⟩, h.big, Ub.new W (y, k, 0, ⟨#[]⟩)⟩
theorem RU.call {w W W' : World} {b : Nat} {B : ByteArray} {A A' : Nat} {E E' : Int} {p : Nat} {u : Up} (h : RU w W b B A E p u) (hr : Rm W' b B A' E') (hg : W.grownBy W' (some b)) : RU w W' b B A' E' p u :=
  have hlt := h.t.lt
  have hp := h.hp
  ⟨h.t.call hr hg, h.hp, h.upd.kept hg (by simp; omega)⟩
theorem RT.setnew {w W : World} {b : Nat} {B : ByteArray} {A : Nat} {E : Int} {p : Nat} (h : RT w W b B A E) (hp : w.heap.size + 1 < p) (i : Nat) (v : Value) : RT w (W.setCell ⟨p, i, none⟩ v) b B A E :=
  have hlt := h.lt
  ⟨h.lt, h.rm.setnew (by omega) _ _, h.out.setnew (by omega) _ _, h.non.setnew (by omega) _ _, grown_setnew h.g (by omega) _⟩
theorem RU.store2 {w W : World} {b : Nat} {B : ByteArray} {A : Nat} {E : Int} {p : Nat} {u : Up} (h : RU w W b B A E p u) (n : Int) : RU w (W.setCell ⟨p, 2, none⟩ (.int .i64 n)) b B A E p (u.1, u.2.1, n, u.2.2.2) :=
  ⟨h.t.setnew h.hp _ _, h.hp, h.upd.set2 n⟩
theorem RU.store3 {w W : World} {b : Nat} {B : ByteArray} {A : Nat} {E : Int} {p : Nat} {u : Up} (h : RU w W b B A E p u) (s : ByteArray) : RU w (W.setCell ⟨p, 3, none⟩ (.string s)) b B A E p (u.1, u.2.1, u.2.2.1, s) :=
  ⟨h.t.setnew h.hp _ _, h.hp, h.upd.set3 s⟩
set_option maxHeartbeats 1000000 in
theorem rrd_a (b : Nat) (B : ByteArray) (At : Nat) (E : Int) (k : Int) (E1 : Int) (A1 : Nat) (hE : E1 ≠ 0) (w : World) (h : Rm w b B At E)
    (HN : Hid (∀ w, Rm w b B At E → Calls Tryd.prog 36 #[.pointer (some ⟨b, 0, none⟩), .int .i64 5] w fun x w' => x = .returned (.int .i64 k) ∧ Rm w' b B A1 E1 ∧ w.grownBy w' (some b))) :
    Calls Tryd.prog 37 #[.pointer (some ⟨b, 0, none⟩)] w fun x w' => x = .returned (.agg #[.string ⟨#[]⟩, .int .i64 0, .int .i64 0, .string ⟨#[]⟩]) ∧ Rm w' b B A1 E1 ∧ w.grownBy w' (some b) := by
  have HS0 := Lib.hid (RT.start h)
  have hlt := h.lt
  clear h
  have k1 : (E1 == 0) = false := by rw [beq_eq_false_iff_ne]; exact hE
  go_enter Tryd.func37, Tryd.ntmps37
  go_wp2_with fail
  refine (HN.out _ HS0.out.rm).mono ?_
  rintro x w1 ⟨rfl, hr, hgr⟩
  have hs := HS0.out.call hr hgr
  clear hr hgr HN HS0
  have e2 := hs.rm.c2
  have HS1 := Lib.hid hs
  clear hs
  have o0 := HS1.out.out.c0
  have o1 := HS1.out.out.c1
  have o2 := HS1.out.out.c2
  have o3 := HS1.out.out.c3
  have g0 := HS1.out.out.f0 0
  have g1 := HS1.out.out.f0 1
  have g2 := HS1.out.out.f0 2
  have g3 := HS1.out.out.f0 3
  have z0 := HS1.out.non.c0
  have z1 := HS1.out.non.c1
  have z2 := HS1.out.non.c2
  have z3 := HS1.out.non.c3
  simp only [up0] at o0 o1 o2 o3 z0 z1 z2 z3
  go_wp2
  refine bodyPost_ret (v := .agg #[.string ⟨#[]⟩, .int .i64 0, .int .i64 0, .string ⟨#[]⟩]) (by simp [results, Tryd.results37, go_sem, o0, o1, o2, o3]) rfl ⟨rfl, HS1.out.rm.set4 (by omega) _ _ _ _, grown_set4 HS1.out.g (Nat.le_refl _) _ _ _ _⟩
set_option maxHeartbeats 1000000 in
theorem rrd_b (b : Nat) (B : ByteArray) (At : Nat) (E : Int) (A1 : Nat)  (w : World) (h : Rm w b B At E)
    (HN : Hid (∀ w, Rm w b B At E → Calls Tryd.prog 36 #[.pointer (some ⟨b, 0, none⟩), .int .i64 5] w fun x w' => x = .returned (.int .i64 0) ∧ Rm w' b B A1 0 ∧ w.grownBy w' (some b))) :
    Calls Tryd.prog 37 #[.pointer (some ⟨b, 0, none⟩)] w fun x w' => x = .returned (.agg #[.string ⟨#[]⟩, .int .i64 0, .int .i64 0, .string ⟨#[]⟩]) ∧ Rm w' b B A1 5 ∧ w.grownBy w' (some b) := by
  have HS0 := Lib.hid (RT.start h)
  have hlt := h.lt
  clear h
  go_enter Tryd.func37, Tryd.ntmps37
  go_wp2_with fail
  refine (HN.out _ HS0.out.rm).mono ?_
  rintro x w1 ⟨rfl, hr, hgr⟩
  have hs := HS0.out.call hr hgr
  clear hr hgr HN HS0
  have e2 := hs.rm.c2
  have fe := hs.rm.f0 2
  have HS1 := Lib.hid (hs.fail 5)
  clear hs
  have o0 := HS1.out.out.c0
  have o1 := HS1.out.out.c1
  have o2 := HS1.out.out.c2
  have o3 := HS1.out.out.c3
  have g0 := HS1.out.out.f0 0
  have g1 := HS1.out.out.f0 1
  have g2 := HS1.out.out.f0 2
  have g3 := HS1.out.out.f0 3
  have z0 := HS1.out.non.c0
  have z1 := HS1.out.non.c1
  have z2 := HS1.out.non.c2
  have z3 := HS1.out.non.c3
  simp only [up0] at o0 o1 o2 o3 z0 z1 z2 z3
  go_wp2
  refine bodyPost_ret (v := .agg #[.string ⟨#[]⟩, .int .i64 0, .int .i64 0, .string ⟨#[]⟩]) (by simp [results, Tryd.results37, go_sem, o0, o1, o2, o3]) rfl ⟨rfl, HS1.out.rm.set4 (by omega) _ _ _ _, grown_set4 HS1.out.g (Nat.le_refl _) _ _ _ _⟩
set_option maxHeartbeats 1000000 in
theorem rrd_c (b : Nat) (B : ByteArray) (At : Nat) (E : Int) (k : Int) (A1 : Nat) (A2 : Nat) (E2 : Int) (y : ByteArray) (hk : 1 ≤ k ∧ k ≤ 5) (hE : E2 ≠ 0) (w : World) (h : Rm w b B At E)
    (HN : Hid (∀ w, Rm w b B At E → Calls Tryd.prog 36 #[.pointer (some ⟨b, 0, none⟩), .int .i64 5] w fun x w' => x = .returned (.int .i64 k) ∧ Rm w' b B A1 0 ∧ w.grownBy w' (some b)))
    (HT : Hid (∀ w, Rm w b B A1 0 → Calls Tryd.prog 55 #[.pointer (some ⟨b, 0, none⟩), .int .i64 16] w fun x w' => x = .returned (.string y) ∧ Rm w' b B A2 E2 ∧ w.grownBy w' (some b))) :
    Calls Tryd.prog 37 #[.pointer (some ⟨b, 0, none⟩)] w fun x w' => x = .returned (.agg #[.string ⟨#[]⟩, .int .i64 0, .int .i64 0, .string ⟨#[]⟩]) ∧ Rm w' b B A2 E2 ∧ w.grownBy w' (some b) := by
  have HS0 := Lib.hid (RT.start h)
  have hlt := h.lt
  clear h
  have k1 : (E2 == 0) = false := by rw [beq_eq_false_iff_ne]; exact hE
  have k2 : (k == 0) = false := by rw [beq_eq_false_iff_ne]; omega
  go_enter Tryd.func37, Tryd.ntmps37
  go_wp2_with fail
  refine (HN.out _ HS0.out.rm).mono ?_
  rintro x w1 ⟨rfl, hr, hgr⟩
  have hs := HS0.out.call hr hgr
  clear hr hgr HN HS0
  have e2 := hs.rm.c2
  have HS1 := Lib.hid hs
  clear hs
  go_wp2_with fail
  refine (HT.out _ HS1.out.rm).mono ?_
  rintro x w2 ⟨rfl, hr, hgr⟩
  have hs := HS1.out.call hr hgr
  clear hr hgr HT HS1
  have e3 := hs.rm.c2
  have HS2 := Lib.hid hs
  clear hs
  have o0 := HS2.out.out.c0
  have o1 := HS2.out.out.c1
  have o2 := HS2.out.out.c2
  have o3 := HS2.out.out.c3
  have g0 := HS2.out.out.f0 0
  have g1 := HS2.out.out.f0 1
  have g2 := HS2.out.out.f0 2
  have g3 := HS2.out.out.f0 3
  have z0 := HS2.out.non.c0
  have z1 := HS2.out.non.c1
  have z2 := HS2.out.non.c2
  have z3 := HS2.out.non.c3
  simp only [up0] at o0 o1 o2 o3 z0 z1 z2 z3
  go_wp2
  refine bodyPost_ret (v := .agg #[.string ⟨#[]⟩, .int .i64 0, .int .i64 0, .string ⟨#[]⟩]) (by simp [results, Tryd.results37, go_sem, o0, o1, o2, o3]) rfl ⟨rfl, HS2.out.rm.set4 (by omega) _ _ _ _, grown_set4 HS2.out.g (Nat.le_refl _) _ _ _ _⟩
set_option maxHeartbeats 1000000 in
theorem rrd_d (b : Nat) (B : ByteArray) (At : Nat) (E : Int) (k : Int) (A1 : Nat) (A2 : Nat) (hk : 1 ≤ k ∧ k ≤ 5) (w : World) (h : Rm w b B At E)
    (HN : Hid (∀ w, Rm w b B At E → Calls Tryd.prog 36 #[.pointer (some ⟨b, 0, none⟩), .int .i64 5] w fun x w' => x = .returned (.int .i64 k) ∧ Rm w' b B A1 0 ∧ w.grownBy w' (some b)))
    (HT : Hid (∀ w, Rm w b B A1 0 → Calls Tryd.prog 55 #[.pointer (some ⟨b, 0, none⟩), .int .i64 16] w fun x w' => x = .returned (.string ⟨#[]⟩) ∧ Rm w' b B A2 0 ∧ w.grownBy w' (some b))) :
    Calls Tryd.prog 37 #[.pointer (some ⟨b, 0, none⟩)] w fun x w' => x = .returned (.agg #[.string ⟨#[]⟩, .int .i64 0, .int .i64 0, .string ⟨#[]⟩]) ∧ Rm w' b B A2 1 ∧ w.grownBy w' (some b) := by
  have HS0 := Lib.hid (RT.start h)
  have hlt := h.lt
  clear h
  have k2 : (k == 0) = false := by rw [beq_eq_false_iff_ne]; omega
  go_enter Tryd.func37, Tryd.ntmps37
  go_wp2_with fail
  refine (HN.out _ HS0.out.rm).mono ?_
  rintro x w1 ⟨rfl, hr, hgr⟩
  have hs := HS0.out.call hr hgr
  clear hr hgr HN HS0
  have e2 := hs.rm.c2
  have HS1 := Lib.hid hs
  clear hs
  go_wp2_with fail
  refine (HT.out _ HS1.out.rm).mono ?_
  rintro x w2 ⟨rfl, hr, hgr⟩
  have hs := HS1.out.call hr hgr
  clear hr hgr HT HS1
  have e3 := hs.rm.c2
  have fe := hs.rm.f0 2
  have HS2 := Lib.hid (hs.fail 1)
  clear hs
  have o0 := HS2.out.out.c0
  have o1 := HS2.out.out.c1
  have o2 := HS2.out.out.c2
  have o3 := HS2.out.out.c3
  have g0 := HS2.out.out.f0 0
  have g1 := HS2.out.out.f0 1
  have g2 := HS2.out.out.f0 2
  have g3 := HS2.out.out.f0 3
  have z0 := HS2.out.non.c0
  have z1 := HS2.out.non.c1
  have z2 := HS2.out.non.c2
  have z3 := HS2.out.non.c3
  simp only [up0] at o0 o1 o2 o3 z0 z1 z2 z3
  go_wp2
  refine bodyPost_ret (v := .agg #[.string ⟨#[]⟩, .int .i64 0, .int .i64 0, .string ⟨#[]⟩]) (by simp [results, Tryd.results37, go_sem, o0, o1, o2, o3]) rfl ⟨rfl, HS2.out.rm.set4 (by omega) _ _ _ _, grown_set4 HS2.out.g (Nat.le_refl _) _ _ _ _⟩
set_option maxHeartbeats 1000000 in
theorem rrd_e1 (b : Nat) (B : ByteArray) (At : Nat) (E : Int) (A1 : Nat) (A2 : Nat) (y : ByteArray) (A3 : Nat) (E3 : Int) (n : Int) (hy : 0 < y.size) (hE : E3 ≠ 0) (w : World) (h : Rm w b B At E)
    (HN : Hid (∀ w, Rm w b B At E → Calls Tryd.prog 36 #[.pointer (some ⟨b, 0, none⟩), .int .i64 5] w fun x w' => x = .returned (.int .i64 1) ∧ Rm w' b B A1 0 ∧ w.grownBy w' (some b)))
    (HT : Hid (∀ w, Rm w b B A1 0 → Calls Tryd.prog 55 #[.pointer (some ⟨b, 0, none⟩), .int .i64 16] w fun x w' => x = .returned (.string y) ∧ Rm w' b B A2 0 ∧ w.grownBy w' (some b)))
    (HS : Hid (∀ w, Rm w b B A2 0 → Calls Tryd.prog 56 #[.pointer (some ⟨b, 0, none⟩)] w fun x w' => x = .returned (.int .i64 n) ∧ Rm w' b B A3 E3 ∧ w.grownBy w' (some b))) :
    Calls Tryd.prog 37 #[.pointer (some ⟨b, 0, none⟩)] w fun x w' => x = .returned (.agg #[.string ⟨#[]⟩, .int .i64 0, .int .i64 0, .string ⟨#[]⟩]) ∧ Rm w' b B A3 E3 ∧ w.grownBy w' (some b) := by
  have HS0 := Lib.hid (RT.start h)
  have hlt := h.lt
  clear h
  have k1 : (E3 == 0) = false := by rw [beq_eq_false_iff_ne]; exact hE
  have k3 := emp_no y hy
  go_enter Tryd.func37, Tryd.ntmps37
  go_wp2_with fail
  refine (HN.out _ HS0.out.rm).mono ?_
  rintro x w1 ⟨rfl, hr, hgr⟩
  have hs := HS0.out.call hr hgr
  clear hr hgr HN HS0
  have e2 := hs.rm.c2
  have HS1 := Lib.hid hs
  clear hs
  go_wp2_with fail
  refine (HT.out _ HS1.out.rm).mono ?_
  rintro x w2 ⟨rfl, hr, hgr⟩
  have hs := HS1.out.call hr hgr
  clear hr hgr HT HS1
  have e3 := hs.rm.c2
  have hlt2 := hs.big
  have HS2 := Lib.hid (hs.make y 1)
  clear hs
  go_wp2_with fail
  refine (HS.out _ HS2.out.t.rm).mono ?_
  rintro x w3 ⟨rfl, hr, hgr⟩
  have hs := HS2.out.call hr hgr
  clear hr hgr HS HS2
  have c := hs.upd.c2
  have f := hs.upd.f0 2
  have HS3 := Lib.hid (hs.store2 n)
  clear hs
  have o0 := HS3.out.t.out.c0
  have o1 := HS3.out.t.out.c1
  have o2 := HS3.out.t.out.c2
  have o3 := HS3.out.t.out.c3
  have g0 := HS3.out.t.out.f0 0
  have g1 := HS3.out.t.out.f0 1
  have g2 := HS3.out.t.out.f0 2
  have g3 := HS3.out.t.out.f0 3
  have z0 := HS3.out.t.non.c0
  have z1 := HS3.out.t.non.c1
  have z2 := HS3.out.t.non.c2
  have z3 := HS3.out.t.non.c3
  simp only [up0] at o0 o1 o2 o3 z0 z1 z2 z3
  have e4 := HS3.out.t.rm.c2
  have d0 := HS3.out.upd.c0
  have d1 := HS3.out.upd.c1
  have d2 := HS3.out.upd.c2
  have d3 := HS3.out.upd.c3
  go_wp2
  refine bodyPost_ret (v := .agg #[.string ⟨#[]⟩, .int .i64 0, .int .i64 0, .string ⟨#[]⟩]) (by simp [results, Tryd.results37, go_sem, o0, o1, o2, o3]) rfl ⟨rfl, HS3.out.t.rm.set4 (by omega) _ _ _ _, grown_set4 HS3.out.t.g (Nat.le_refl _) _ _ _ _⟩
set_option maxHeartbeats 1000000 in
theorem rrd_f1 (b : Nat) (B : ByteArray) (At : Nat) (E : Int) (A1 : Nat) (A2 : Nat) (y : ByteArray) (A3 : Nat) (n : Int) (hy : 0 < y.size) (w : World) (h : Rm w b B At E)
    (HN : Hid (∀ w, Rm w b B At E → Calls Tryd.prog 36 #[.pointer (some ⟨b, 0, none⟩), .int .i64 5] w fun x w' => x = .returned (.int .i64 1) ∧ Rm w' b B A1 0 ∧ w.grownBy w' (some b)))
    (HT : Hid (∀ w, Rm w b B A1 0 → Calls Tryd.prog 55 #[.pointer (some ⟨b, 0, none⟩), .int .i64 16] w fun x w' => x = .returned (.string y) ∧ Rm w' b B A2 0 ∧ w.grownBy w' (some b)))
    (HS : Hid (∀ w, Rm w b B A2 0 → Calls Tryd.prog 56 #[.pointer (some ⟨b, 0, none⟩)] w fun x w' => x = .returned (.int .i64 n) ∧ Rm w' b B A3 0 ∧ w.grownBy w' (some b))) :
    Calls Tryd.prog 37 #[.pointer (some ⟨b, 0, none⟩)] w fun x w' => x = .returned (.agg #[.string y, .int .i64 1, .int .i64 n, .string ⟨#[]⟩]) ∧ Rm w' b B A3 0 ∧ w.grownBy w' (some b) := by
  have HS0 := Lib.hid (RT.start h)
  have hlt := h.lt
  clear h
  have k3 := emp_no y hy
  go_enter Tryd.func37, Tryd.ntmps37
  go_wp2_with fail
  refine (HN.out _ HS0.out.rm).mono ?_
  rintro x w1 ⟨rfl, hr, hgr⟩
  have hs := HS0.out.call hr hgr
  clear hr hgr HN HS0
  have e2 := hs.rm.c2
  have HS1 := Lib.hid hs
  clear hs
  go_wp2_with fail
  refine (HT.out _ HS1.out.rm).mono ?_
  rintro x w2 ⟨rfl, hr, hgr⟩
  have hs := HS1.out.call hr hgr
  clear hr hgr HT HS1
  have e3 := hs.rm.c2
  have hlt2 := hs.big
  have HS2 := Lib.hid (hs.make y 1)
  clear hs
  go_wp2_with fail
  refine (HS.out _ HS2.out.t.rm).mono ?_
  rintro x w3 ⟨rfl, hr, hgr⟩
  have hs := HS2.out.call hr hgr
  clear hr hgr HS HS2
  have c := hs.upd.c2
  have f := hs.upd.f0 2
  have HS3 := Lib.hid (hs.store2 n)
  clear hs
  have o0 := HS3.out.t.out.c0
  have o1 := HS3.out.t.out.c1
  have o2 := HS3.out.t.out.c2
  have o3 := HS3.out.t.out.c3
  have g0 := HS3.out.t.out.f0 0
  have g1 := HS3.out.t.out.f0 1
  have g2 := HS3.out.t.out.f0 2
  have g3 := HS3.out.t.out.f0 3
  have z0 := HS3.out.t.non.c0
  have z1 := HS3.out.t.non.c1
  have z2 := HS3.out.t.non.c2
  have z3 := HS3.out.t.non.c3
  simp only [up0] at o0 o1 o2 o3 z0 z1 z2 z3
  have e4 := HS3.out.t.rm.c2
  have d0 := HS3.out.upd.c0
  have d1 := HS3.out.upd.c1
  have d2 := HS3.out.upd.c2
  have d3 := HS3.out.upd.c3
  go_wp2
  refine bodyPost_ret (v := .agg #[.string y, .int .i64 1, .int .i64 n, .string ⟨#[]⟩]) (by simp [results, Tryd.results37, go_sem, o0, o1, o2, o3]) rfl ⟨rfl, HS3.out.t.rm.set4 (by omega) _ _ _ _, grown_set4 HS3.out.t.g (Nat.le_refl _) _ _ _ _⟩
set_option maxHeartbeats 1000000 in
theorem rrd_e3 (b : Nat) (B : ByteArray) (At : Nat) (E : Int) (A1 : Nat) (A2 : Nat) (y : ByteArray) (A3 : Nat) (E3 : Int) (n : Int) (hy : 0 < y.size) (hE : E3 ≠ 0) (w : World) (h : Rm w b B At E)
    (HN : Hid (∀ w, Rm w b B At E → Calls Tryd.prog 36 #[.pointer (some ⟨b, 0, none⟩), .int .i64 5] w fun x w' => x = .returned (.int .i64 3) ∧ Rm w' b B A1 0 ∧ w.grownBy w' (some b)))
    (HT : Hid (∀ w, Rm w b B A1 0 → Calls Tryd.prog 55 #[.pointer (some ⟨b, 0, none⟩), .int .i64 16] w fun x w' => x = .returned (.string y) ∧ Rm w' b B A2 0 ∧ w.grownBy w' (some b)))
    (HS : Hid (∀ w, Rm w b B A2 0 → Calls Tryd.prog 56 #[.pointer (some ⟨b, 0, none⟩)] w fun x w' => x = .returned (.int .i64 n) ∧ Rm w' b B A3 E3 ∧ w.grownBy w' (some b))) :
    Calls Tryd.prog 37 #[.pointer (some ⟨b, 0, none⟩)] w fun x w' => x = .returned (.agg #[.string ⟨#[]⟩, .int .i64 0, .int .i64 0, .string ⟨#[]⟩]) ∧ Rm w' b B A3 E3 ∧ w.grownBy w' (some b) := by
  have HS0 := Lib.hid (RT.start h)
  have hlt := h.lt
  clear h
  have k1 : (E3 == 0) = false := by rw [beq_eq_false_iff_ne]; exact hE
  have k3 := emp_no y hy
  go_enter Tryd.func37, Tryd.ntmps37
  go_wp2_with fail
  refine (HN.out _ HS0.out.rm).mono ?_
  rintro x w1 ⟨rfl, hr, hgr⟩
  have hs := HS0.out.call hr hgr
  clear hr hgr HN HS0
  have e2 := hs.rm.c2
  have HS1 := Lib.hid hs
  clear hs
  go_wp2_with fail
  refine (HT.out _ HS1.out.rm).mono ?_
  rintro x w2 ⟨rfl, hr, hgr⟩
  have hs := HS1.out.call hr hgr
  clear hr hgr HT HS1
  have e3 := hs.rm.c2
  have hlt2 := hs.big
  have HS2 := Lib.hid (hs.make y 3)
  clear hs
  go_wp2_with fail
  refine (HS.out _ HS2.out.t.rm).mono ?_
  rintro x w3 ⟨rfl, hr, hgr⟩
  have hs := HS2.out.call hr hgr
  clear hr hgr HS HS2
  have c := hs.upd.c2
  have f := hs.upd.f0 2
  have HS3 := Lib.hid (hs.store2 n)
  clear hs
  have o0 := HS3.out.t.out.c0
  have o1 := HS3.out.t.out.c1
  have o2 := HS3.out.t.out.c2
  have o3 := HS3.out.t.out.c3
  have g0 := HS3.out.t.out.f0 0
  have g1 := HS3.out.t.out.f0 1
  have g2 := HS3.out.t.out.f0 2
  have g3 := HS3.out.t.out.f0 3
  have z0 := HS3.out.t.non.c0
  have z1 := HS3.out.t.non.c1
  have z2 := HS3.out.t.non.c2
  have z3 := HS3.out.t.non.c3
  simp only [up0] at o0 o1 o2 o3 z0 z1 z2 z3
  have e4 := HS3.out.t.rm.c2
  have d0 := HS3.out.upd.c0
  have d1 := HS3.out.upd.c1
  have d2 := HS3.out.upd.c2
  have d3 := HS3.out.upd.c3
  go_wp2
  refine bodyPost_ret (v := .agg #[.string ⟨#[]⟩, .int .i64 0, .int .i64 0, .string ⟨#[]⟩]) (by simp [results, Tryd.results37, go_sem, o0, o1, o2, o3]) rfl ⟨rfl, HS3.out.t.rm.set4 (by omega) _ _ _ _, grown_set4 HS3.out.t.g (Nat.le_refl _) _ _ _ _⟩
set_option maxHeartbeats 1000000 in
theorem rrd_f3 (b : Nat) (B : ByteArray) (At : Nat) (E : Int) (A1 : Nat) (A2 : Nat) (y : ByteArray) (A3 : Nat) (n : Int) (hy : 0 < y.size) (w : World) (h : Rm w b B At E)
    (HN : Hid (∀ w, Rm w b B At E → Calls Tryd.prog 36 #[.pointer (some ⟨b, 0, none⟩), .int .i64 5] w fun x w' => x = .returned (.int .i64 3) ∧ Rm w' b B A1 0 ∧ w.grownBy w' (some b)))
    (HT : Hid (∀ w, Rm w b B A1 0 → Calls Tryd.prog 55 #[.pointer (some ⟨b, 0, none⟩), .int .i64 16] w fun x w' => x = .returned (.string y) ∧ Rm w' b B A2 0 ∧ w.grownBy w' (some b)))
    (HS : Hid (∀ w, Rm w b B A2 0 → Calls Tryd.prog 56 #[.pointer (some ⟨b, 0, none⟩)] w fun x w' => x = .returned (.int .i64 n) ∧ Rm w' b B A3 0 ∧ w.grownBy w' (some b))) :
    Calls Tryd.prog 37 #[.pointer (some ⟨b, 0, none⟩)] w fun x w' => x = .returned (.agg #[.string y, .int .i64 3, .int .i64 n, .string ⟨#[]⟩]) ∧ Rm w' b B A3 0 ∧ w.grownBy w' (some b) := by
  have HS0 := Lib.hid (RT.start h)
  have hlt := h.lt
  clear h
  have k3 := emp_no y hy
  go_enter Tryd.func37, Tryd.ntmps37
  go_wp2_with fail
  refine (HN.out _ HS0.out.rm).mono ?_
  rintro x w1 ⟨rfl, hr, hgr⟩
  have hs := HS0.out.call hr hgr
  clear hr hgr HN HS0
  have e2 := hs.rm.c2
  have HS1 := Lib.hid hs
  clear hs
  go_wp2_with fail
  refine (HT.out _ HS1.out.rm).mono ?_
  rintro x w2 ⟨rfl, hr, hgr⟩
  have hs := HS1.out.call hr hgr
  clear hr hgr HT HS1
  have e3 := hs.rm.c2
  have hlt2 := hs.big
  have HS2 := Lib.hid (hs.make y 3)
  clear hs
  go_wp2_with fail
  refine (HS.out _ HS2.out.t.rm).mono ?_
  rintro x w3 ⟨rfl, hr, hgr⟩
  have hs := HS2.out.call hr hgr
  clear hr hgr HS HS2
  have c := hs.upd.c2
  have f := hs.upd.f0 2
  have HS3 := Lib.hid (hs.store2 n)
  clear hs
  have o0 := HS3.out.t.out.c0
  have o1 := HS3.out.t.out.c1
  have o2 := HS3.out.t.out.c2
  have o3 := HS3.out.t.out.c3
  have g0 := HS3.out.t.out.f0 0
  have g1 := HS3.out.t.out.f0 1
  have g2 := HS3.out.t.out.f0 2
  have g3 := HS3.out.t.out.f0 3
  have z0 := HS3.out.t.non.c0
  have z1 := HS3.out.t.non.c1
  have z2 := HS3.out.t.non.c2
  have z3 := HS3.out.t.non.c3
  simp only [up0] at o0 o1 o2 o3 z0 z1 z2 z3
  have e4 := HS3.out.t.rm.c2
  have d0 := HS3.out.upd.c0
  have d1 := HS3.out.upd.c1
  have d2 := HS3.out.upd.c2
  have d3 := HS3.out.upd.c3
  go_wp2
  refine bodyPost_ret (v := .agg #[.string y, .int .i64 3, .int .i64 n, .string ⟨#[]⟩]) (by simp [results, Tryd.results37, go_sem, o0, o1, o2, o3]) rfl ⟨rfl, HS3.out.t.rm.set4 (by omega) _ _ _ _, grown_set4 HS3.out.t.g (Nat.le_refl _) _ _ _ _⟩
set_option maxHeartbeats 1000000 in
theorem rrd_g2 (b : Nat) (B : ByteArray) (At : Nat) (E : Int) (A1 : Nat) (A2 : Nat) (y : ByteArray) (A3 : Nat) (E3 : Int) (s : ByteArray) (hy : 0 < y.size) (hE : E3 ≠ 0) (w : World) (h : Rm w b B At E)
    (HN : Hid (∀ w, Rm w b B At E → Calls Tryd.prog 36 #[.pointer (some ⟨b, 0, none⟩), .int .i64 5] w fun x w' => x = .returned (.int .i64 2) ∧ Rm w' b B A1 0 ∧ w.grownBy w' (some b)))
    (HT : Hid (∀ w, Rm w b B A1 0 → Calls Tryd.prog 55 #[.pointer (some ⟨b, 0, none⟩), .int .i64 16] w fun x w' => x = .returned (.string y) ∧ Rm w' b B A2 0 ∧ w.grownBy w' (some b)))
    (HS : Hid (∀ w, Rm w b B A2 0 → Calls Tryd.prog 55 #[.pointer (some ⟨b, 0, none⟩), .int .i64 32] w fun x w' => x = .returned (.string s) ∧ Rm w' b B A3 E3 ∧ w.grownBy w' (some b))) :
    Calls Tryd.prog 37 #[.pointer (some ⟨b, 0, none⟩)] w fun x w' => x = .returned (.agg #[.string ⟨#[]⟩, .int .i64 0, .int .i64 0, .string ⟨#[]⟩]) ∧ Rm w' b B A3 E3 ∧ w.grownBy w' (some b) := by
  have HS0 := Lib.hid (RT.start h)
  have hlt := h.lt
  clear h
  have k1 : (E3 == 0) = false := by rw [beq_eq_false_iff_ne]; exact hE
  have k3 := emp_no y hy
  go_enter Tryd.func37, Tryd.ntmps37
  go_wp2_with fail
  refine (HN.out _ HS0.out.rm).mono ?_
  rintro x w1 ⟨rfl, hr, hgr⟩
  have hs := HS0.out.call hr hgr
  clear hr hgr HN HS0
  have e2 := hs.rm.c2
  have HS1 := Lib.hid hs
  clear hs
  go_wp2_with fail
  refine (HT.out _ HS1.out.rm).mono ?_
  rintro x w2 ⟨rfl, hr, hgr⟩
  have hs := HS1.out.call hr hgr
  clear hr hgr HT HS1
  have e3 := hs.rm.c2
  have hlt2 := hs.big
  have HS2 := Lib.hid (hs.make y 2)
  clear hs
  go_wp2_with fail
  refine (HS.out _ HS2.out.t.rm).mono ?_
  rintro x w3 ⟨rfl, hr, hgr⟩
  have hs := HS2.out.call hr hgr
  clear hr hgr HS HS2
  have c := hs.upd.c3
  have f := hs.upd.f0 3
  have HS3 := Lib.hid (hs.store3 s)
  clear hs
  have o0 := HS3.out.t.out.c0
  have o1 := HS3.out.t.out.c1
  have o2 := HS3.out.t.out.c2
  have o3 := HS3.out.t.out.c3
  have g0 := HS3.out.t.out.f0 0
  have g1 := HS3.out.t.out.f0 1
  have g2 := HS3.out.t.out.f0 2
  have g3 := HS3.out.t.out.f0 3
  have z0 := HS3.out.t.non.c0
  have z1 := HS3.out.t.non.c1
  have z2 := HS3.out.t.non.c2
  have z3 := HS3.out.t.non.c3
  simp only [up0] at o0 o1 o2 o3 z0 z1 z2 z3
  have e4 := HS3.out.t.rm.c2
  have d0 := HS3.out.upd.c0
  have d1 := HS3.out.upd.c1
  have d2 := HS3.out.upd.c2
  have d3 := HS3.out.upd.c3
  go_wp2
  refine bodyPost_ret (v := .agg #[.string ⟨#[]⟩, .int .i64 0, .int .i64 0, .string ⟨#[]⟩]) (by simp [results, Tryd.results37, go_sem, o0, o1, o2, o3]) rfl ⟨rfl, HS3.out.t.rm.set4 (by omega) _ _ _ _, grown_set4 HS3.out.t.g (Nat.le_refl _) _ _ _ _⟩
set_option maxHeartbeats 1000000 in
theorem rrd_h2 (b : Nat) (B : ByteArray) (At : Nat) (E : Int) (A1 : Nat) (A2 : Nat) (y : ByteArray) (A3 : Nat) (s : ByteArray) (hy : 0 < y.size) (w : World) (h : Rm w b B At E)
    (HN : Hid (∀ w, Rm w b B At E → Calls Tryd.prog 36 #[.pointer (some ⟨b, 0, none⟩), .int .i64 5] w fun x w' => x = .returned (.int .i64 2) ∧ Rm w' b B A1 0 ∧ w.grownBy w' (some b)))
    (HT : Hid (∀ w, Rm w b B A1 0 → Calls Tryd.prog 55 #[.pointer (some ⟨b, 0, none⟩), .int .i64 16] w fun x w' => x = .returned (.string y) ∧ Rm w' b B A2 0 ∧ w.grownBy w' (some b)))
    (HS : Hid (∀ w, Rm w b B A2 0 → Calls Tryd.prog 55 #[.pointer (some ⟨b, 0, none⟩), .int .i64 32] w fun x w' => x = .returned (.string s) ∧ Rm w' b B A3 0 ∧ w.grownBy w' (some b))) :
    Calls Tryd.prog 37 #[.pointer (some ⟨b, 0, none⟩)] w fun x w' => x = .returned (.agg #[.string y, .int .i64 2, .int .i64 0, .string s]) ∧ Rm w' b B A3 0 ∧ w.grownBy w' (some b) := by
  have HS0 := Lib.hid (RT.start h)
  have hlt := h.lt
  clear h
  have k3 := emp_no y hy
  go_enter Tryd.func37, Tryd.ntmps37
  go_wp2_with fail
  refine (HN.out _ HS0.out.rm).mono ?_
  rintro x w1 ⟨rfl, hr, hgr⟩
  have hs := HS0.out.call hr hgr
  clear hr hgr HN HS0
  have e2 := hs.rm.c2
  have HS1 := Lib.hid hs
  clear hs
  go_wp2_with fail
  refine (HT.out _ HS1.out.rm).mono ?_
  rintro x w2 ⟨rfl, hr, hgr⟩
  have hs := HS1.out.call hr hgr
  clear hr hgr HT HS1
  have e3 := hs.rm.c2
  have hlt2 := hs.big
  have HS2 := Lib.hid (hs.make y 2)
  clear hs
  go_wp2_with fail
  refine (HS.out _ HS2.out.t.rm).mono ?_
  rintro x w3 ⟨rfl, hr, hgr⟩
  have hs := HS2.out.call hr hgr
  clear hr hgr HS HS2
  have c := hs.upd.c3
  have f := hs.upd.f0 3
  have HS3 := Lib.hid (hs.store3 s)
  clear hs
  have o0 := HS3.out.t.out.c0
  have o1 := HS3.out.t.out.c1
  have o2 := HS3.out.t.out.c2
  have o3 := HS3.out.t.out.c3
  have g0 := HS3.out.t.out.f0 0
  have g1 := HS3.out.t.out.f0 1
  have g2 := HS3.out.t.out.f0 2
  have g3 := HS3.out.t.out.f0 3
  have z0 := HS3.out.t.non.c0
  have z1 := HS3.out.t.non.c1
  have z2 := HS3.out.t.non.c2
  have z3 := HS3.out.t.non.c3
  simp only [up0] at o0 o1 o2 o3 z0 z1 z2 z3
  have e4 := HS3.out.t.rm.c2
  have d0 := HS3.out.upd.c0
  have d1 := HS3.out.upd.c1
  have d2 := HS3.out.upd.c2
  have d3 := HS3.out.upd.c3
  go_wp2
  refine bodyPost_ret (v := .agg #[.string y, .int .i64 2, .int .i64 0, .string s]) (by simp [results, Tryd.results37, go_sem, o0, o1, o2, o3]) rfl ⟨rfl, HS3.out.t.rm.set4 (by omega) _ _ _ _, grown_set4 HS3.out.t.g (Nat.le_refl _) _ _ _ _⟩
set_option maxHeartbeats 1000000 in
theorem rrd_g4 (b : Nat) (B : ByteArray) (At : Nat) (E : Int) (A1 : Nat) (A2 : Nat) (y : ByteArray) (A3 : Nat) (E3 : Int) (s : ByteArray) (hy : 0 < y.size) (hE : E3 ≠ 0) (w : World) (h : Rm w b B At E)
    (HN : Hid (∀ w, Rm w b B At E → Calls Tryd.prog 36 #[.pointer (some ⟨b, 0, none⟩), .int .i64 5] w fun x w' => x = .returned (.int .i64 4) ∧ Rm w' b B A1 0 ∧ w.grownBy w' (some b)))
    (HT : Hid (∀ w, Rm w b B A1 0 → Calls Tryd.prog 55 #[.pointer (some ⟨b, 0, none⟩), .int .i64 16] w fun x w' => x = .returned (.string y) ∧ Rm w' b B A2 0 ∧ w.grownBy w' (some b)))
    (HS : Hid (∀ w, Rm w b B A2 0 → Calls Tryd.prog 55 #[.pointer (some ⟨b, 0, none⟩), .int .i64 32] w fun x w' => x = .returned (.string s) ∧ Rm w' b B A3 E3 ∧ w.grownBy w' (some b))) :
    Calls Tryd.prog 37 #[.pointer (some ⟨b, 0, none⟩)] w fun x w' => x = .returned (.agg #[.string ⟨#[]⟩, .int .i64 0, .int .i64 0, .string ⟨#[]⟩]) ∧ Rm w' b B A3 E3 ∧ w.grownBy w' (some b) := by
  have HS0 := Lib.hid (RT.start h)
  have hlt := h.lt
  clear h
  have k1 : (E3 == 0) = false := by rw [beq_eq_false_iff_ne]; exact hE
  have k3 := emp_no y hy
  go_enter Tryd.func37, Tryd.ntmps37
  go_wp2_with fail
  refine (HN.out _ HS0.out.rm).mono ?_
  rintro x w1 ⟨rfl, hr, hgr⟩
  have hs := HS0.out.call hr hgr
  clear hr hgr HN HS0
  have e2 := hs.rm.c2
  have HS1 := Lib.hid hs
  clear hs
  go_wp2_with fail
  refine (HT.out _ HS1.out.rm).mono ?_
  rintro x w2 ⟨rfl, hr, hgr⟩
  have hs := HS1.out.call hr hgr
  clear hr hgr HT HS1
  have e3 := hs.rm.c2
  have hlt2 := hs.big
  have HS2 := Lib.hid (hs.make y 4)
  clear hs
  go_wp2_with fail
  refine (HS.out _ HS2.out.t.rm).mono ?_
  rintro x w3 ⟨rfl, hr, hgr⟩
  have hs := HS2.out.call hr hgr
  clear hr hgr HS HS2
  have c := hs.upd.c3
  have f := hs.upd.f0 3
  have HS3 := Lib.hid (hs.store3 s)
  clear hs
  have o0 := HS3.out.t.out.c0
  have o1 := HS3.out.t.out.c1
  have o2 := HS3.out.t.out.c2
  have o3 := HS3.out.t.out.c3
  have g0 := HS3.out.t.out.f0 0
  have g1 := HS3.out.t.out.f0 1
  have g2 := HS3.out.t.out.f0 2
  have g3 := HS3.out.t.out.f0 3
  have z0 := HS3.out.t.non.c0
  have z1 := HS3.out.t.non.c1
  have z2 := HS3.out.t.non.c2
  have z3 := HS3.out.t.non.c3
  simp only [up0] at o0 o1 o2 o3 z0 z1 z2 z3
  have e4 := HS3.out.t.rm.c2
  have d0 := HS3.out.upd.c0
  have d1 := HS3.out.upd.c1
  have d2 := HS3.out.upd.c2
  have d3 := HS3.out.upd.c3
  go_wp2
  refine bodyPost_ret (v := .agg #[.string ⟨#[]⟩, .int .i64 0, .int .i64 0, .string ⟨#[]⟩]) (by simp [results, Tryd.results37, go_sem, o0, o1, o2, o3]) rfl ⟨rfl, HS3.out.t.rm.set4 (by omega) _ _ _ _, grown_set4 HS3.out.t.g (Nat.le_refl _) _ _ _ _⟩
set_option maxHeartbeats 1000000 in
theorem rrd_h4 (b : Nat) (B : ByteArray) (At : Nat) (E : Int) (A1 : Nat) (A2 : Nat) (y : ByteArray) (A3 : Nat) (s : ByteArray) (hy : 0 < y.size) (w : World) (h : Rm w b B At E)
    (HN : Hid (∀ w, Rm w b B At E → Calls Tryd.prog 36 #[.pointer (some ⟨b, 0, none⟩), .int .i64 5] w fun x w' => x = .returned (.int .i64 4) ∧ Rm w' b B A1 0 ∧ w.grownBy w' (some b)))
    (HT : Hid (∀ w, Rm w b B A1 0 → Calls Tryd.prog 55 #[.pointer (some ⟨b, 0, none⟩), .int .i64 16] w fun x w' => x = .returned (.string y) ∧ Rm w' b B A2 0 ∧ w.grownBy w' (some b)))
    (HS : Hid (∀ w, Rm w b B A2 0 → Calls Tryd.prog 55 #[.pointer (some ⟨b, 0, none⟩), .int .i64 32] w fun x w' => x = .returned (.string s) ∧ Rm w' b B A3 0 ∧ w.grownBy w' (some b))) :
    Calls Tryd.prog 37 #[.pointer (some ⟨b, 0, none⟩)] w fun x w' => x = .returned (.agg #[.string y, .int .i64 4, .int .i64 0, .string s]) ∧ Rm w' b B A3 0 ∧ w.grownBy w' (some b) := by
  have HS0 := Lib.hid (RT.start h)
  have hlt := h.lt
  clear h
  have k3 := emp_no y hy
  go_enter Tryd.func37, Tryd.ntmps37
  go_wp2_with fail
  refine (HN.out _ HS0.out.rm).mono ?_
  rintro x w1 ⟨rfl, hr, hgr⟩
  have hs := HS0.out.call hr hgr
  clear hr hgr HN HS0
  have e2 := hs.rm.c2
  have HS1 := Lib.hid hs
  clear hs
  go_wp2_with fail
  refine (HT.out _ HS1.out.rm).mono ?_
  rintro x w2 ⟨rfl, hr, hgr⟩
  have hs := HS1.out.call hr hgr
  clear hr hgr HT HS1
  have e3 := hs.rm.c2
  have hlt2 := hs.big
  have HS2 := Lib.hid (hs.make y 4)
  clear hs
  go_wp2_with fail
  refine (HS.out _ HS2.out.t.rm).mono ?_
  rintro x w3 ⟨rfl, hr, hgr⟩
  have hs := HS2.out.call hr hgr
  clear hr hgr HS HS2
  have c := hs.upd.c3
  have f := hs.upd.f0 3
  have HS3 := Lib.hid (hs.store3 s)
  clear hs
  have o0 := HS3.out.t.out.c0
  have o1 := HS3.out.t.out.c1
  have o2 := HS3.out.t.out.c2
  have o3 := HS3.out.t.out.c3
  have g0 := HS3.out.t.out.f0 0
  have g1 := HS3.out.t.out.f0 1
  have g2 := HS3.out.t.out.f0 2
  have g3 := HS3.out.t.out.f0 3
  have z0 := HS3.out.t.non.c0
  have z1 := HS3.out.t.non.c1
  have z2 := HS3.out.t.non.c2
  have z3 := HS3.out.t.non.c3
  simp only [up0] at o0 o1 o2 o3 z0 z1 z2 z3
  have e4 := HS3.out.t.rm.c2
  have d0 := HS3.out.upd.c0
  have d1 := HS3.out.upd.c1
  have d2 := HS3.out.upd.c2
  have d3 := HS3.out.upd.c3
  go_wp2
  refine bodyPost_ret (v := .agg #[.string y, .int .i64 4, .int .i64 0, .string s]) (by simp [results, Tryd.results37, go_sem, o0, o1, o2, o3]) rfl ⟨rfl, HS3.out.t.rm.set4 (by omega) _ _ _ _, grown_set4 HS3.out.t.g (Nat.le_refl _) _ _ _ _⟩
set_option maxHeartbeats 1000000 in
theorem rrd_i5 (b : Nat) (B : ByteArray) (At : Nat) (E : Int) (A1 : Nat) (A2 : Nat) (y : ByteArray) (hy : 0 < y.size) (w : World) (h : Rm w b B At E)
    (HN : Hid (∀ w, Rm w b B At E → Calls Tryd.prog 36 #[.pointer (some ⟨b, 0, none⟩), .int .i64 5] w fun x w' => x = .returned (.int .i64 5) ∧ Rm w' b B A1 0 ∧ w.grownBy w' (some b)))
    (HT : Hid (∀ w, Rm w b B A1 0 → Calls Tryd.prog 55 #[.pointer (some ⟨b, 0, none⟩), .int .i64 16] w fun x w' => x = .returned (.string y) ∧ Rm w' b B A2 0 ∧ w.grownBy w' (some b))) :
    Calls Tryd.prog 37 #[.pointer (some ⟨b, 0, none⟩)] w fun x w' => x = .returned (.agg #[.string y, .int .i64 5, .int .i64 0, .string ⟨#[]⟩]) ∧ Rm w' b B A2 0 ∧ w.grownBy w' (some b) := by
  have HS0 := Lib.hid (RT.start h)
  have hlt := h.lt
  clear h
  have k3 := emp_no y hy
  go_enter Tryd.func37, Tryd.ntmps37
  go_wp2_with fail
  refine (HN.out _ HS0.out.rm).mono ?_
  rintro x w1 ⟨rfl, hr, hgr⟩
  have hs := HS0.out.call hr hgr
  clear hr hgr HN HS0
  have e2 := hs.rm.c2
  have HS1 := Lib.hid hs
  clear hs
  go_wp2_with fail
  refine (HT.out _ HS1.out.rm).mono ?_
  rintro x w2 ⟨rfl, hr, hgr⟩
  have hs := HS1.out.call hr hgr
  clear hr hgr HT HS1
  have e3 := hs.rm.c2
  have hlt2 := hs.big
  have HS2 := Lib.hid (hs.make y 5)
  clear hs
  have o0 := HS2.out.t.out.c0
  have o1 := HS2.out.t.out.c1
  have o2 := HS2.out.t.out.c2
  have o3 := HS2.out.t.out.c3
  have g0 := HS2.out.t.out.f0 0
  have g1 := HS2.out.t.out.f0 1
  have g2 := HS2.out.t.out.f0 2
  have g3 := HS2.out.t.out.f0 3
  have z0 := HS2.out.t.non.c0
  have z1 := HS2.out.t.non.c1
  have z2 := HS2.out.t.non.c2
  have z3 := HS2.out.t.non.c3
  simp only [up0] at o0 o1 o2 o3 z0 z1 z2 z3
  have e4 := HS2.out.t.rm.c2
  have d0 := HS2.out.upd.c0
  have d1 := HS2.out.upd.c1
  have d2 := HS2.out.upd.c2
  have d3 := HS2.out.upd.c3
  go_wp2
  refine bodyPost_ret (v := .agg #[.string y, .int .i64 5, .int .i64 0, .string ⟨#[]⟩]) (by simp [results, Tryd.results37, go_sem, o0, o1, o2, o3]) rfl ⟨rfl, HS2.out.t.rm.set4 (by omega) _ _ _ _, grown_set4 HS2.out.t.g (Nat.le_refl _) _ _ _ _⟩
end Go.Proofs.YtcknklodnfabpaaDoor
