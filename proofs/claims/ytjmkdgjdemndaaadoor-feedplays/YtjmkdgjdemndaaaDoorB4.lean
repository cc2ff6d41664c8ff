import Derived.Test.YtjmkdgjdemndaaaDoorI1
import Derived.Test.YtjmkdgjdemndaaaDoorB2
import Derived.Test.YtjmkdgjdemndaaaDoorB0
/- Blocks that a call makes, beside readers. -/
namespace Go.Proofs.YtjmkdgjdemndaaaDoor.X
open Go Go.RowKit
theorem grown_alloc (w : World) (o : Obj) (row : Option Nat) : w.grownBy (w.alloc o) row := ⟨rfl, rfl, rfl, by simp, fun _ hi _ => Below.heap_alloc _ _ _ hi⟩
theorem grown_setnew {a c : World} {row : Option Nat} (h : a.grownBy c row) {k i : Nat} (hk : a.heap.size ≤ k) (v : Value) : a.grownBy (c.setCell ⟨k, i, none⟩ v) row :=
  ⟨h.os, h.tape, h.output, by have := h.size; simp [World.setCell]; omega, fun j hj hr => (Below.heap_setCell _ _ _ _ (show j ≠ k by omega)).trans (h.block j hj hr)⟩
theorem grown_set4 {a c : World} {row : Option Nat} (h : a.grownBy c row) {k : Nat} (hk : a.heap.size ≤ k) (v0 v1 v2 v3 : Value) : a.grownBy ((((c.setCell ⟨k, 0, none⟩ v0).setCell ⟨k, 1, none⟩ v1).setCell ⟨k, 2, none⟩ v2).setCell ⟨k, 3, none⟩ v3) row :=
  grown_setnew (grown_setnew (grown_setnew (grown_setnew h hk _) hk _) hk _) hk _
theorem Rd.setnew {w b r e} (h : Rd w b r e) {k : Nat} (hk : b ≠ k) (i : Nat) (v : Value) : Rd (w.setCell ⟨k, i, none⟩ v) b r e := (Below.heap_setCell _ _ _ _ hk).trans h
theorem Rd.alloc {w b r e} (h : Rd w b r e) (o : Obj) : Rd (w.alloc o) b r e := (Below.heap_alloc _ _ _ h.lt).trans h
theorem Rd.set4 {c : World} {b r e} (h : Rd c b r e) {k : Nat} (hk : b ≠ k) (v0 v1 v2 v3 : Value) : Rd ((((c.setCell ⟨k, 0, none⟩ v0).setCell ⟨k, 1, none⟩ v1).setCell ⟨k, 2, none⟩ v2).setCell ⟨k, 3, none⟩ v3) b r e :=
  (((h.setnew hk _ _).setnew hk _ _).setnew hk _ _).setnew hk _ _
theorem Wd.setnew {w : World} (h : Wd w) {k : Nat} (hk : 0 < k) (i : Nat) (v : Value) : Wd (w.setCell ⟨k, i, none⟩ v) :=
  h.grown (row := some k) (grown_set w k i v) (pos0 hk)
theorem Wd.alloc {w : World} (h : Wd w) (o : Obj) : Wd (w.alloc o) := h.grown (grown_alloc w o none) (by simp)
/-- Two new updates' blocks, a reader's own one apart. -/
theorem two_new (w : World) : Ub ((w.alloc (.cells #[.string ⟨#[]⟩, .int .i64 0, .int .i64 0, .string ⟨#[]⟩] 114)).alloc (.cells #[.string ⟨#[]⟩, .int .i64 0, .int .i64 0, .string ⟨#[]⟩] 114)) w.heap.size up0 ∧ Ub ((w.alloc (.cells #[.string ⟨#[]⟩, .int .i64 0, .int .i64 0, .string ⟨#[]⟩] 114)).alloc (.cells #[.string ⟨#[]⟩, .int .i64 0, .int .i64 0, .string ⟨#[]⟩] 114)) (w.heap.size + 1) up0 := by
  refine ⟨(Ub.new w up0).alloc _, ?_⟩
  have h := Ub.new (w.alloc (.cells #[.string ⟨#[]⟩, .int .i64 0, .int .i64 0, .string ⟨#[]⟩] 114)) up0
  have e : (w.alloc (.cells #[.string ⟨#[]⟩, .int .i64 0, .int .i64 0, .string ⟨#[]⟩] 114)).heap.size = w.heap.size + 1 := by simp
  rw [e] at h
  exact h
end Go.Proofs.YtjmkdgjdemndaaaDoor.X
/- readKind, readKey, Read. -/
namespace Go.Proofs.YtjmkdgjdemndaaaDoor.X
open Go Go.RowKit
def kndE (B : ByteArray) (At : Nat) (E : Int) : Int := if numV B At E 5 = 0 then failE (numE B At E 5) 5 else numE B At E 5
def keyE (B : ByteArray) (At : Nat) (E : Int) : Int := if (txtV B At E 16).size = 0 then failE (txtE B At E 16) 1 else txtE B At E 16
set_option maxHeartbeats 400000 in
theorem knd_any (B : ByteArray) (At : Nat) (E : Int) (b : Nat) (hA : At ≤ B.size) (hm : B.size ≤ maxLen) (w : World) (hd : Wd w) (h : Rd w b (rst B At E) E) :
    Calls Tryd.prog 89 #[.pointer (some ⟨b, 0, none⟩)] w fun x w' => x = .returned (.int .i64 (numV B At E 5)) ∧ Rd w' b (rst B (rawA B At E) (kndE B At E)) (kndE B At E) ∧ w.grownBy w' (some b) := by
  have HU := Lib.hid (num_any B At E 5 b hA hm (by decide) (by decide) w hd h)
  have hvb := numV_bd B At E 5 hA
  clear h
  by_cases h0 : numV B At E 5 = 0
  · rw [show kndE B At E = failE (numE B At E 5) 5 from if_pos h0]
    rw [h0] at HU ⊢
    go_enter Tryd.func89, Tryd.ntmps89
    go_wp2_with fail
    refine HU.out.mono ?_
    rintro x w1 ⟨rfl, hr, hgr⟩
    have HR := Lib.hid hr
    have HGR := Lib.hid hgr
    clear hr hgr HU
    go_wp2_with fail
    refine (fail_any B (rawA B At E) (numE B At E 5) 5 b _ HR.out).mono ?_
    rintro x w2 ⟨rfl, hr, hgr⟩
    have HR2 := Lib.hid hr
    have HG2 := Lib.hid (grown_trans HGR.out hgr)
    clear hr hgr HR HGR
    go_wp2
    go_ret
    exact ⟨rfl, HR2.out, HG2.out⟩
  · rw [show kndE B At E = numE B At E 5 from if_neg h0]
    have k1 : (numV B At E 5 == 0) = false := by rw [beq_eq_false_iff_ne]; exact h0
    generalize numV B At E 5 = V at *
    go_enter Tryd.func89, Tryd.ntmps89
    go_wp2_with fail
    refine HU.out.mono ?_
    rintro x w1 ⟨rfl, hr, hgr⟩
    have HR := Lib.hid hr
    have HGR := Lib.hid hgr
    clear hr hgr HU
    go_wp2
    go_ret
    exact ⟨rfl, HR.out, HGR.out⟩
theorem szero (s : ByteArray) (h : s.size = 0) : s = ⟨#[]⟩ := by
  apply eq_of_byt
  · rw [h]; rfl
  · intro i hi; omega
set_option maxHeartbeats 400000 in
theorem key_any (B : ByteArray) (At : Nat) (E : Int) (b : Nat) (hA : At ≤ B.size) (hm : B.size ≤ 140737488355328) (w : World) (hd : Wd w) (h : Rd w b (rst B At E) E) :
    Calls Tryd.prog 90 #[.pointer (some ⟨b, 0, none⟩)] w fun x w' => x = .returned (.string (txtV B At E 16)) ∧ Rd w' b (rst B (txtA B At E 16) (keyE B At E)) (keyE B At E) ∧ w.grownBy w' (some b) := by
  have HU := Lib.hid (txt_any B At E 16 b hA hm (by decide) (by decide) w hd h)
  clear h
  by_cases h0 : (txtV B At E 16).size = 0
  · rw [show keyE B At E = failE (txtE B At E 16) 1 from if_pos h0]
    rw [szero _ h0] at HU ⊢
    go_enter Tryd.func90, Tryd.ntmps90
    go_wp2_with fail
    refine HU.out.mono ?_
    rintro x w1 ⟨rfl, hr, hgr⟩
    have HR := Lib.hid hr
    have HGR := Lib.hid hgr
    clear hr hgr HU
    go_wp2_with fail
    refine (fail_any B (txtA B At E 16) (txtE B At E 16) 1 b _ HR.out).mono ?_
    rintro x w2 ⟨rfl, hr, hgr⟩
    have HR2 := Lib.hid hr
    have HG2 := Lib.hid (grown_trans HGR.out hgr)
    clear hr hgr HR HGR
    go_wp2
    go_ret
    exact ⟨rfl, HR2.out, HG2.out⟩
  · rw [show keyE B At E = txtE B At E 16 from if_neg h0]
    have k1 := emp_no (txtV B At E 16) (by omega)
    generalize txtV B At E 16 = V at *
    go_enter Tryd.func90, Tryd.ntmps90
    go_wp2_with fail
    refine HU.out.mono ?_
    rintro x w1 ⟨rfl, hr, hgr⟩
    have HR := Lib.hid hr
    have HGR := Lib.hid hgr
    clear hr hgr HU
    go_wp2
    go_ret
    exact ⟨rfl, HR.out, HGR.out⟩
end Go.Proofs.YtjmkdgjdemndaaaDoor.X
/- Read, way by way. -/
namespace Go.Proofs.YtjmkdgjdemndaaaDoor.X
open Go Go.RowKit
/-- How it stands within Read. -/
structure RS (w W : World) (b : Nat) (R : ByteArray) (E : Int) (u : Up) : Prop where
  hb : 0 < b
  lt : b < w.heap.size
  rd : Rd W b R E
  d : Wd W
  out : Ub W w.heap.size up0
  upd : Ub W (w.heap.size + 1) u
  g : w.grownBy W (some b)
theorem RS.start {w : World} {b : Nat} {R : ByteArray} {E : Int} (hb : 0 < b) (hd : Wd w) (h : Rd w b R E) : RS w ((w.alloc (.cells #[.string ⟨#[]⟩, .int .i64 0, .int .i64 0, .string ⟨#[]⟩] 114)).alloc (.cells #[.string ⟨#[]⟩, .int .i64 0, .int .i64 0, .string ⟨#[]⟩] 114)) b R E up0 :=
  ⟨hb, h.lt, (h.alloc _).alloc _, (hd.alloc _).alloc _, (two_new w).1, (two_new w).2, grown_trans (grown_alloc w _ _) (grown_alloc _ _ _)⟩
theorem RS.call {w W W' : World} {b : Nat} {R R' : ByteArray} {E E' : Int} {u : Up} (h : RS w W b R E u) (hr : Rd W' b R' E') (hg : W.grownBy W' (some b)) : RS w W' b R' E' u :=
  have hlt := h.lt
  ⟨h.hb, h.lt, hr, h.d.grown hg (pos0 h.hb), h.out.kept hg (by simp; omega), h.upd.kept hg (by simp; omega), grown_trans h.g hg⟩
theorem RS.store0 {w W : World} {b : Nat} {R : ByteArray} {E : Int} {u : Up} (h : RS w W b R E u) (x : ByteArray) : RS w (W.setCell ⟨w.heap.size + 1, 0, none⟩ (.string x)) b R E (x, u.2) :=
  have hlt := h.lt
  have hp := h.hb
  ⟨h.hb, h.lt, h.rd.setnew (by omega) _ _, h.d.setnew (by omega) _ _, h.out.setnew (by omega) _ _, h.upd.set0 x, grown_setnew h.g (by omega) _⟩
theorem RS.store1 {w W : World} {b : Nat} {R : ByteArray} {E : Int} {u : Up} (h : RS w W b R E u) (x : Int) : RS w (W.setCell ⟨w.heap.size + 1, 1, none⟩ (.int .i64 x)) b R E (u.1, x, u.2.2) :=
  have hlt := h.lt
  have hp := h.hb
  ⟨h.hb, h.lt, h.rd.setnew (by omega) _ _, h.d.setnew (by omega) _ _, h.out.setnew (by omega) _ _, h.upd.set1 x, grown_setnew h.g (by omega) _⟩
theorem RS.store2 {w W : World} {b : Nat} {R : ByteArray} {E : Int} {u : Up} (h : RS w W b R E u) (x : Int) : RS w (W.setCell ⟨w.heap.size + 1, 2, none⟩ (.int .i64 x)) b R E (u.1, u.2.1, x, u.2.2.2) :=
  have hlt := h.lt
  have hp := h.hb
  ⟨h.hb, h.lt, h.rd.setnew (by omega) _ _, h.d.setnew (by omega) _ _, h.out.setnew (by omega) _ _, h.upd.set2 x, grown_setnew h.g (by omega) _⟩
theorem RS.store3 {w W : World} {b : Nat} {R : ByteArray} {E : Int} {u : Up} (h : RS w W b R E u) (x : ByteArray) : RS w (W.setCell ⟨w.heap.size + 1, 3, none⟩ (.string x)) b R E (u.1, u.2.1, u.2.2.1, x) :=
  have hlt := h.lt
  have hp := h.hb
  ⟨h.hb, h.lt, h.rd.setnew (by omega) _ _, h.d.setnew (by omega) _ _, h.out.setnew (by omega) _ _, h.upd.set3 x, grown_setnew h.g (by omega) _⟩
set_option maxHeartbeats 1000000 in
theorem crd_0z (b : Nat) (R0 R1 R2 y : ByteArray) (E0 E1 E3 : Int) (hE : E3 ≠ 0) (hb : 0 < b) (w : World) (hd : Wd w) (h : Rd w b R0 E0)
    (HK : Hid (∀ w, Wd w → Rd w b R0 E0 → Calls Tryd.prog 89 #[.pointer (some ⟨b, 0, none⟩)] w fun x w' => x = .returned (.int .i64 0) ∧ Rd w' b R1 E1 ∧ w.grownBy w' (some b)))
    (HY : Hid (∀ w, Wd w → Rd w b R1 E1 → Calls Tryd.prog 90 #[.pointer (some ⟨b, 0, none⟩)] w fun x w' => x = .returned (.string y) ∧ Rd w' b R2 E3 ∧ w.grownBy w' (some b))) :
    Calls Tryd.prog 73 #[.pointer (some ⟨b, 0, none⟩)] w fun x w' => x = .returned (.agg #[.string ⟨#[]⟩, .int .i64 0, .int .i64 0, .string ⟨#[]⟩]) ∧ Rd w' b R2 E3 ∧ w.grownBy w' (some b) := by
  have HS0 := Lib.hid (RS.start hb hd h)
  have hlt := h.lt
  clear hd h
  have k1 : (E3 == 0) = false := by rw [beq_eq_false_iff_ne]; exact hE
  go_enter Tryd.func73, Tryd.ntmps73
  go_wp2_with fail
  refine (HK.out _ HS0.out.d HS0.out.rd).mono ?_
  rintro x w1 ⟨rfl, hr, hgr⟩
  have hs := HS0.out.call hr hgr
  clear hr hgr HK
  have c := hs.upd.c1
  have f := hs.upd.f0 1
  have HS1 := Lib.hid (hs.store1 0)
  clear hs HS0
  go_wp2_with fail
  refine (HY.out _ HS1.out.d HS1.out.rd).mono ?_
  rintro x w2 ⟨rfl, hr, hgr⟩
  have hs := HS1.out.call hr hgr
  clear hr hgr HY
  have c1 := (hs.store0 y).upd.c1
  have c := hs.upd.c0
  have f := hs.upd.f0 0
  have HS2 := Lib.hid (hs.store0 y)
  clear hs HS1
  have d0 := HS2.out.upd.c0
  have d1 := HS2.out.upd.c1
  have d2 := HS2.out.upd.c2
  have d3 := HS2.out.upd.c3
  have o0 := HS2.out.out.c0
  have o1 := HS2.out.out.c1
  have o2 := HS2.out.out.c2
  have o3 := HS2.out.out.c3
  have g0 := HS2.out.out.f0 0
  have g1 := HS2.out.out.f0 1
  have g2 := HS2.out.out.f0 2
  have g3 := HS2.out.out.f0 3
  simp only [up0] at d0 d1 d2 d3 o0 o1 o2 o3
  go_wp2_with fail
  refine (err_any b _ _ _ HS2.out.rd).mono ?_
  rintro x w9 ⟨rfl, rfl⟩
  go_wp2
  refine bodyPost_ret (v := .agg #[.string ⟨#[]⟩, .int .i64 0, .int .i64 0, .string ⟨#[]⟩]) (by simp [results, Tryd.results73, go_sem, o0, o1, o2, o3]) rfl ⟨rfl, HS2.out.rd.set4 (by omega) _ _ _ _, grown_set4 HS2.out.g (Nat.le_refl _) _ _ _ _⟩
set_option maxHeartbeats 1000000 in
theorem crd_5z (b : Nat) (R0 R1 R2 y : ByteArray) (E0 E1 E3 : Int) (hE : E3 ≠ 0) (hb : 0 < b) (w : World) (hd : Wd w) (h : Rd w b R0 E0)
    (HK : Hid (∀ w, Wd w → Rd w b R0 E0 → Calls Tryd.prog 89 #[.pointer (some ⟨b, 0, none⟩)] w fun x w' => x = .returned (.int .i64 5) ∧ Rd w' b R1 E1 ∧ w.grownBy w' (some b)))
    (HY : Hid (∀ w, Wd w → Rd w b R1 E1 → Calls Tryd.prog 90 #[.pointer (some ⟨b, 0, none⟩)] w fun x w' => x = .returned (.string y) ∧ Rd w' b R2 E3 ∧ w.grownBy w' (some b))) :
    Calls Tryd.prog 73 #[.pointer (some ⟨b, 0, none⟩)] w fun x w' => x = .returned (.agg #[.string ⟨#[]⟩, .int .i64 0, .int .i64 0, .string ⟨#[]⟩]) ∧ Rd w' b R2 E3 ∧ w.grownBy w' (some b) := by
  have HS0 := Lib.hid (RS.start hb hd h)
  have hlt := h.lt
  clear hd h
  have k1 : (E3 == 0) = false := by rw [beq_eq_false_iff_ne]; exact hE
  go_enter Tryd.func73, Tryd.ntmps73
  go_wp2_with fail
  refine (HK.out _ HS0.out.d HS0.out.rd).mono ?_
  rintro x w1 ⟨rfl, hr, hgr⟩
  have hs := HS0.out.call hr hgr
  clear hr hgr HK
  have c := hs.upd.c1
  have f := hs.upd.f0 1
  have HS1 := Lib.hid (hs.store1 5)
  clear hs HS0
  go_wp2_with fail
  refine (HY.out _ HS1.out.d HS1.out.rd).mono ?_
  rintro x w2 ⟨rfl, hr, hgr⟩
  have hs := HS1.out.call hr hgr
  clear hr hgr HY
  have c1 := (hs.store0 y).upd.c1
  have c := hs.upd.c0
  have f := hs.upd.f0 0
  have HS2 := Lib.hid (hs.store0 y)
  clear hs HS1
  have d0 := HS2.out.upd.c0
  have d1 := HS2.out.upd.c1
  have d2 := HS2.out.upd.c2
  have d3 := HS2.out.upd.c3
  have o0 := HS2.out.out.c0
  have o1 := HS2.out.out.c1
  have o2 := HS2.out.out.c2
  have o3 := HS2.out.out.c3
  have g0 := HS2.out.out.f0 0
  have g1 := HS2.out.out.f0 1
  have g2 := HS2.out.out.f0 2
  have g3 := HS2.out.out.f0 3
  simp only [up0] at d0 d1 d2 d3 o0 o1 o2 o3
  go_wp2_with fail
  refine (err_any b _ _ _ HS2.out.rd).mono ?_
  rintro x w9 ⟨rfl, rfl⟩
  go_wp2
  refine bodyPost_ret (v := .agg #[.string ⟨#[]⟩, .int .i64 0, .int .i64 0, .string ⟨#[]⟩]) (by simp [results, Tryd.results73, go_sem, o0, o1, o2, o3]) rfl ⟨rfl, HS2.out.rd.set4 (by omega) _ _ _ _, grown_set4 HS2.out.g (Nat.le_refl _) _ _ _ _⟩
set_option maxHeartbeats 1000000 in
theorem crd_5 (b : Nat) (R0 R1 R2 y : ByteArray) (E0 E1 : Int) (hb : 0 < b) (w : World) (hd : Wd w) (h : Rd w b R0 E0)
    (HK : Hid (∀ w, Wd w → Rd w b R0 E0 → Calls Tryd.prog 89 #[.pointer (some ⟨b, 0, none⟩)] w fun x w' => x = .returned (.int .i64 5) ∧ Rd w' b R1 E1 ∧ w.grownBy w' (some b)))
    (HY : Hid (∀ w, Wd w → Rd w b R1 E1 → Calls Tryd.prog 90 #[.pointer (some ⟨b, 0, none⟩)] w fun x w' => x = .returned (.string y) ∧ Rd w' b R2 0 ∧ w.grownBy w' (some b))) :
    Calls Tryd.prog 73 #[.pointer (some ⟨b, 0, none⟩)] w fun x w' => x = .returned (.agg #[.string y, .int .i64 5, .int .i64 0, .string ⟨#[]⟩]) ∧ Rd w' b R2 0 ∧ w.grownBy w' (some b) := by
  have HS0 := Lib.hid (RS.start hb hd h)
  have hlt := h.lt
  clear hd h
  go_enter Tryd.func73, Tryd.ntmps73
  go_wp2_with fail
  refine (HK.out _ HS0.out.d HS0.out.rd).mono ?_
  rintro x w1 ⟨rfl, hr, hgr⟩
  have hs := HS0.out.call hr hgr
  clear hr hgr HK
  have c := hs.upd.c1
  have f := hs.upd.f0 1
  have HS1 := Lib.hid (hs.store1 5)
  clear hs HS0
  go_wp2_with fail
  refine (HY.out _ HS1.out.d HS1.out.rd).mono ?_
  rintro x w2 ⟨rfl, hr, hgr⟩
  have hs := HS1.out.call hr hgr
  clear hr hgr HY
  have c1 := (hs.store0 y).upd.c1
  have c := hs.upd.c0
  have f := hs.upd.f0 0
  have HS2 := Lib.hid (hs.store0 y)
  clear hs HS1
  have d0 := HS2.out.upd.c0
  have d1 := HS2.out.upd.c1
  have d2 := HS2.out.upd.c2
  have d3 := HS2.out.upd.c3
  have o0 := HS2.out.out.c0
  have o1 := HS2.out.out.c1
  have o2 := HS2.out.out.c2
  have o3 := HS2.out.out.c3
  have g0 := HS2.out.out.f0 0
  have g1 := HS2.out.out.f0 1
  have g2 := HS2.out.out.f0 2
  have g3 := HS2.out.out.f0 3
  simp only [up0] at d0 d1 d2 d3 o0 o1 o2 o3
  go_wp2_with fail
  refine (err_any b _ _ _ HS2.out.rd).mono ?_
  rintro x w9 ⟨rfl, rfl⟩
  go_wp2
  refine bodyPost_ret (v := .agg #[.string y, .int .i64 5, .int .i64 0, .string ⟨#[]⟩]) (by simp [results, Tryd.results73, go_sem, o0, o1, o2, o3]) rfl ⟨rfl, HS2.out.rd.set4 (by omega) _ _ _ _, grown_set4 HS2.out.g (Nat.le_refl _) _ _ _ _⟩
set_option maxHeartbeats 1000000 in
theorem crd_1z (b : Nat) (R0 R1 R2 R3 y : ByteArray) (n : Int) (E0 E1 E2 E3 : Int) (hE : E3 ≠ 0) (hb : 0 < b) (w : World) (hd : Wd w) (h : Rd w b R0 E0)
    (HK : Hid (∀ w, Wd w → Rd w b R0 E0 → Calls Tryd.prog 89 #[.pointer (some ⟨b, 0, none⟩)] w fun x w' => x = .returned (.int .i64 1) ∧ Rd w' b R1 E1 ∧ w.grownBy w' (some b)))
    (HY : Hid (∀ w, Wd w → Rd w b R1 E1 → Calls Tryd.prog 90 #[.pointer (some ⟨b, 0, none⟩)] w fun x w' => x = .returned (.string y) ∧ Rd w' b R2 E2 ∧ w.grownBy w' (some b)))
    (HS : Hid (∀ w, Wd w → Rd w b R2 E2 → Calls Tryd.prog 91 #[.pointer (some ⟨b, 0, none⟩)] w fun x w' => x = .returned (.int .i64 n) ∧ Rd w' b R3 E3 ∧ w.grownBy w' (some b))) :
    Calls Tryd.prog 73 #[.pointer (some ⟨b, 0, none⟩)] w fun x w' => x = .returned (.agg #[.string ⟨#[]⟩, .int .i64 0, .int .i64 0, .string ⟨#[]⟩]) ∧ Rd w' b R3 E3 ∧ w.grownBy w' (some b) := by
  have HS0 := Lib.hid (RS.start hb hd h)
  have hlt := h.lt
  clear hd h
  have k1 : (E3 == 0) = false := by rw [beq_eq_false_iff_ne]; exact hE
  go_enter Tryd.func73, Tryd.ntmps73
  go_wp2_with fail
  refine (HK.out _ HS0.out.d HS0.out.rd).mono ?_
  rintro x w1 ⟨rfl, hr, hgr⟩
  have hs := HS0.out.call hr hgr
  clear hr hgr HK
  have c := hs.upd.c1
  have f := hs.upd.f0 1
  have HS1 := Lib.hid (hs.store1 1)
  clear hs HS0
  go_wp2_with fail
  refine (HY.out _ HS1.out.d HS1.out.rd).mono ?_
  rintro x w2 ⟨rfl, hr, hgr⟩
  have hs := HS1.out.call hr hgr
  clear hr hgr HY
  have c1 := (hs.store0 y).upd.c1
  have c := hs.upd.c0
  have f := hs.upd.f0 0
  have HS2 := Lib.hid (hs.store0 y)
  clear hs HS1
  go_wp2_with fail
  refine (HS.out _ HS2.out.d HS2.out.rd).mono ?_
  rintro x w3 ⟨rfl, hr, hgr⟩
  have hs := HS2.out.call hr hgr
  clear hr hgr HS
  have c := hs.upd.c2
  have f := hs.upd.f0 2
  have HS3 := Lib.hid (hs.store2 n)
  clear hs HS2
  have d0 := HS3.out.upd.c0
  have d1 := HS3.out.upd.c1
  have d2 := HS3.out.upd.c2
  have d3 := HS3.out.upd.c3
  have o0 := HS3.out.out.c0
  have o1 := HS3.out.out.c1
  have o2 := HS3.out.out.c2
  have o3 := HS3.out.out.c3
  have g0 := HS3.out.out.f0 0
  have g1 := HS3.out.out.f0 1
  have g2 := HS3.out.out.f0 2
  have g3 := HS3.out.out.f0 3
  simp only [up0] at d0 d1 d2 d3 o0 o1 o2 o3
  go_wp2_with fail
  refine (err_any b _ _ _ HS3.out.rd).mono ?_
  rintro x w9 ⟨rfl, rfl⟩
  go_wp2
  refine bodyPost_ret (v := .agg #[.string ⟨#[]⟩, .int .i64 0, .int .i64 0, .string ⟨#[]⟩]) (by simp [results, Tryd.results73, go_sem, o0, o1, o2, o3]) rfl ⟨rfl, HS3.out.rd.set4 (by omega) _ _ _ _, grown_set4 HS3.out.g (Nat.le_refl _) _ _ _ _⟩
set_option maxHeartbeats 1000000 in
theorem crd_1 (b : Nat) (R0 R1 R2 R3 y : ByteArray) (n : Int) (E0 E1 E2 : Int) (hb : 0 < b) (w : World) (hd : Wd w) (h : Rd w b R0 E0)
    (HK : Hid (∀ w, Wd w → Rd w b R0 E0 → Calls Tryd.prog 89 #[.pointer (some ⟨b, 0, none⟩)] w fun x w' => x = .returned (.int .i64 1) ∧ Rd w' b R1 E1 ∧ w.grownBy w' (some b)))
    (HY : Hid (∀ w, Wd w → Rd w b R1 E1 → Calls Tryd.prog 90 #[.pointer (some ⟨b, 0, none⟩)] w fun x w' => x = .returned (.string y) ∧ Rd w' b R2 E2 ∧ w.grownBy w' (some b)))
    (HS : Hid (∀ w, Wd w → Rd w b R2 E2 → Calls Tryd.prog 91 #[.pointer (some ⟨b, 0, none⟩)] w fun x w' => x = .returned (.int .i64 n) ∧ Rd w' b R3 0 ∧ w.grownBy w' (some b))) :
    Calls Tryd.prog 73 #[.pointer (some ⟨b, 0, none⟩)] w fun x w' => x = .returned (.agg #[.string y, .int .i64 1, .int .i64 n, .string ⟨#[]⟩]) ∧ Rd w' b R3 0 ∧ w.grownBy w' (some b) := by
  have HS0 := Lib.hid (RS.start hb hd h)
  have hlt := h.lt
  clear hd h
  go_enter Tryd.func73, Tryd.ntmps73
  go_wp2_with fail
  refine (HK.out _ HS0.out.d HS0.out.rd).mono ?_
  rintro x w1 ⟨rfl, hr, hgr⟩
  have hs := HS0.out.call hr hgr
  clear hr hgr HK
  have c := hs.upd.c1
  have f := hs.upd.f0 1
  have HS1 := Lib.hid (hs.store1 1)
  clear hs HS0
  go_wp2_with fail
  refine (HY.out _ HS1.out.d HS1.out.rd).mono ?_
  rintro x w2 ⟨rfl, hr, hgr⟩
  have hs := HS1.out.call hr hgr
  clear hr hgr HY
  have c1 := (hs.store0 y).upd.c1
  have c := hs.upd.c0
  have f := hs.upd.f0 0
  have HS2 := Lib.hid (hs.store0 y)
  clear hs HS1
  go_wp2_with fail
  refine (HS.out _ HS2.out.d HS2.out.rd).mono ?_
  rintro x w3 ⟨rfl, hr, hgr⟩
  have hs := HS2.out.call hr hgr
  clear hr hgr HS
  have c := hs.upd.c2
  have f := hs.upd.f0 2
  have HS3 := Lib.hid (hs.store2 n)
  clear hs HS2
  have d0 := HS3.out.upd.c0
  have d1 := HS3.out.upd.c1
  have d2 := HS3.out.upd.c2
  have d3 := HS3.out.upd.c3
  have o0 := HS3.out.out.c0
  have o1 := HS3.out.out.c1
  have o2 := HS3.out.out.c2
  have o3 := HS3.out.out.c3
  have g0 := HS3.out.out.f0 0
  have g1 := HS3.out.out.f0 1
  have g2 := HS3.out.out.f0 2
  have g3 := HS3.out.out.f0 3
  simp only [up0] at d0 d1 d2 d3 o0 o1 o2 o3
  go_wp2_with fail
  refine (err_any b _ _ _ HS3.out.rd).mono ?_
  rintro x w9 ⟨rfl, rfl⟩
  go_wp2
  refine bodyPost_ret (v := .agg #[.string y, .int .i64 1, .int .i64 n, .string ⟨#[]⟩]) (by simp [results, Tryd.results73, go_sem, o0, o1, o2, o3]) rfl ⟨rfl, HS3.out.rd.set4 (by omega) _ _ _ _, grown_set4 HS3.out.g (Nat.le_refl _) _ _ _ _⟩
set_option maxHeartbeats 1000000 in
theorem crd_3z (b : Nat) (R0 R1 R2 R3 y : ByteArray) (n : Int) (E0 E1 E2 E3 : Int) (hE : E3 ≠ 0) (hb : 0 < b) (w : World) (hd : Wd w) (h : Rd w b R0 E0)
    (HK : Hid (∀ w, Wd w → Rd w b R0 E0 → Calls Tryd.prog 89 #[.pointer (some ⟨b, 0, none⟩)] w fun x w' => x = .returned (.int .i64 3) ∧ Rd w' b R1 E1 ∧ w.grownBy w' (some b)))
    (HY : Hid (∀ w, Wd w → Rd w b R1 E1 → Calls Tryd.prog 90 #[.pointer (some ⟨b, 0, none⟩)] w fun x w' => x = .returned (.string y) ∧ Rd w' b R2 E2 ∧ w.grownBy w' (some b)))
    (HS : Hid (∀ w, Wd w → Rd w b R2 E2 → Calls Tryd.prog 91 #[.pointer (some ⟨b, 0, none⟩)] w fun x w' => x = .returned (.int .i64 n) ∧ Rd w' b R3 E3 ∧ w.grownBy w' (some b))) :
    Calls Tryd.prog 73 #[.pointer (some ⟨b, 0, none⟩)] w fun x w' => x = .returned (.agg #[.string ⟨#[]⟩, .int .i64 0, .int .i64 0, .string ⟨#[]⟩]) ∧ Rd w' b R3 E3 ∧ w.grownBy w' (some b) := by
  have HS0 := Lib.hid (RS.start hb hd h)
  have hlt := h.lt
  clear hd h
  have k1 : (E3 == 0) = false := by rw [beq_eq_false_iff_ne]; exact hE
  go_enter Tryd.func73, Tryd.ntmps73
  go_wp2_with fail
  refine (HK.out _ HS0.out.d HS0.out.rd).mono ?_
  rintro x w1 ⟨rfl, hr, hgr⟩
  have hs := HS0.out.call hr hgr
  clear hr hgr HK
  have c := hs.upd.c1
  have f := hs.upd.f0 1
  have HS1 := Lib.hid (hs.store1 3)
  clear hs HS0
  go_wp2_with fail
  refine (HY.out _ HS1.out.d HS1.out.rd).mono ?_
  rintro x w2 ⟨rfl, hr, hgr⟩
  have hs := HS1.out.call hr hgr
  clear hr hgr HY
  have c1 := (hs.store0 y).upd.c1
  have c := hs.upd.c0
  have f := hs.upd.f0 0
  have HS2 := Lib.hid (hs.store0 y)
  clear hs HS1
  go_wp2_with fail
  refine (HS.out _ HS2.out.d HS2.out.rd).mono ?_
  rintro x w3 ⟨rfl, hr, hgr⟩
  have hs := HS2.out.call hr hgr
  clear hr hgr HS
  have c := hs.upd.c2
  have f := hs.upd.f0 2
  have HS3 := Lib.hid (hs.store2 n)
  clear hs HS2
  have d0 := HS3.out.upd.c0
  have d1 := HS3.out.upd.c1
  have d2 := HS3.out.upd.c2
  have d3 := HS3.out.upd.c3
  have o0 := HS3.out.out.c0
  have o1 := HS3.out.out.c1
  have o2 := HS3.out.out.c2
  have o3 := HS3.out.out.c3
  have g0 := HS3.out.out.f0 0
  have g1 := HS3.out.out.f0 1
  have g2 := HS3.out.out.f0 2
  have g3 := HS3.out.out.f0 3
  simp only [up0] at d0 d1 d2 d3 o0 o1 o2 o3
  go_wp2_with fail
  refine (err_any b _ _ _ HS3.out.rd).mono ?_
  rintro x w9 ⟨rfl, rfl⟩
  go_wp2
  refine bodyPost_ret (v := .agg #[.string ⟨#[]⟩, .int .i64 0, .int .i64 0, .string ⟨#[]⟩]) (by simp [results, Tryd.results73, go_sem, o0, o1, o2, o3]) rfl ⟨rfl, HS3.out.rd.set4 (by omega) _ _ _ _, grown_set4 HS3.out.g (Nat.le_refl _) _ _ _ _⟩
set_option maxHeartbeats 1000000 in
theorem crd_3 (b : Nat) (R0 R1 R2 R3 y : ByteArray) (n : Int) (E0 E1 E2 : Int) (hb : 0 < b) (w : World) (hd : Wd w) (h : Rd w b R0 E0)
    (HK : Hid (∀ w, Wd w → Rd w b R0 E0 → Calls Tryd.prog 89 #[.pointer (some ⟨b, 0, none⟩)] w fun x w' => x = .returned (.int .i64 3) ∧ Rd w' b R1 E1 ∧ w.grownBy w' (some b)))
    (HY : Hid (∀ w, Wd w → Rd w b R1 E1 → Calls Tryd.prog 90 #[.pointer (some ⟨b, 0, none⟩)] w fun x w' => x = .returned (.string y) ∧ Rd w' b R2 E2 ∧ w.grownBy w' (some b)))
    (HS : Hid (∀ w, Wd w → Rd w b R2 E2 → Calls Tryd.prog 91 #[.pointer (some ⟨b, 0, none⟩)] w fun x w' => x = .returned (.int .i64 n) ∧ Rd w' b R3 0 ∧ w.grownBy w' (some b))) :
    Calls Tryd.prog 73 #[.pointer (some ⟨b, 0, none⟩)] w fun x w' => x = .returned (.agg #[.string y, .int .i64 3, .int .i64 n, .string ⟨#[]⟩]) ∧ Rd w' b R3 0 ∧ w.grownBy w' (some b) := by
  have HS0 := Lib.hid (RS.start hb hd h)
  have hlt := h.lt
  clear hd h
  go_enter Tryd.func73, Tryd.ntmps73
  go_wp2_with fail
  refine (HK.out _ HS0.out.d HS0.out.rd).mono ?_
  rintro x w1 ⟨rfl, hr, hgr⟩
  have hs := HS0.out.call hr hgr
  clear hr hgr HK
  have c := hs.upd.c1
  have f := hs.upd.f0 1
  have HS1 := Lib.hid (hs.store1 3)
  clear hs HS0
  go_wp2_with fail
  refine (HY.out _ HS1.out.d HS1.out.rd).mono ?_
  rintro x w2 ⟨rfl, hr, hgr⟩
  have hs := HS1.out.call hr hgr
  clear hr hgr HY
  have c1 := (hs.store0 y).upd.c1
  have c := hs.upd.c0
  have f := hs.upd.f0 0
  have HS2 := Lib.hid (hs.store0 y)
  clear hs HS1
  go_wp2_with fail
  refine (HS.out _ HS2.out.d HS2.out.rd).mono ?_
  rintro x w3 ⟨rfl, hr, hgr⟩
  have hs := HS2.out.call hr hgr
  clear hr hgr HS
  have c := hs.upd.c2
  have f := hs.upd.f0 2
  have HS3 := Lib.hid (hs.store2 n)
  clear hs HS2
  have d0 := HS3.out.upd.c0
  have d1 := HS3.out.upd.c1
  have d2 := HS3.out.upd.c2
  have d3 := HS3.out.upd.c3
  have o0 := HS3.out.out.c0
  have o1 := HS3.out.out.c1
  have o2 := HS3.out.out.c2
  have o3 := HS3.out.out.c3
  have g0 := HS3.out.out.f0 0
  have g1 := HS3.out.out.f0 1
  have g2 := HS3.out.out.f0 2
  have g3 := HS3.out.out.f0 3
  simp only [up0] at d0 d1 d2 d3 o0 o1 o2 o3
  go_wp2_with fail
  refine (err_any b _ _ _ HS3.out.rd).mono ?_
  rintro x w9 ⟨rfl, rfl⟩
  go_wp2
  refine bodyPost_ret (v := .agg #[.string y, .int .i64 3, .int .i64 n, .string ⟨#[]⟩]) (by simp [results, Tryd.results73, go_sem, o0, o1, o2, o3]) rfl ⟨rfl, HS3.out.rd.set4 (by omega) _ _ _ _, grown_set4 HS3.out.g (Nat.le_refl _) _ _ _ _⟩
set_option maxHeartbeats 1000000 in
theorem crd_2z (b : Nat) (R0 R1 R2 R3 y : ByteArray) (s : ByteArray) (E0 E1 E2 E3 : Int) (hE : E3 ≠ 0) (hb : 0 < b) (w : World) (hd : Wd w) (h : Rd w b R0 E0)
    (HK : Hid (∀ w, Wd w → Rd w b R0 E0 → Calls Tryd.prog 89 #[.pointer (some ⟨b, 0, none⟩)] w fun x w' => x = .returned (.int .i64 2) ∧ Rd w' b R1 E1 ∧ w.grownBy w' (some b)))
    (HY : Hid (∀ w, Wd w → Rd w b R1 E1 → Calls Tryd.prog 90 #[.pointer (some ⟨b, 0, none⟩)] w fun x w' => x = .returned (.string y) ∧ Rd w' b R2 E2 ∧ w.grownBy w' (some b)))
    (HS : Hid (∀ w, Wd w → Rd w b R2 E2 → Calls Tryd.prog 92 #[.pointer (some ⟨b, 0, none⟩), .int .i64 32] w fun x w' => x = .returned (.string s) ∧ Rd w' b R3 E3 ∧ w.grownBy w' (some b))) :
    Calls Tryd.prog 73 #[.pointer (some ⟨b, 0, none⟩)] w fun x w' => x = .returned (.agg #[.string ⟨#[]⟩, .int .i64 0, .int .i64 0, .string ⟨#[]⟩]) ∧ Rd w' b R3 E3 ∧ w.grownBy w' (some b) := by
  have HS0 := Lib.hid (RS.start hb hd h)
  have hlt := h.lt
  clear hd h
  have k1 : (E3 == 0) = false := by rw [beq_eq_false_iff_ne]; exact hE
  go_enter Tryd.func73, Tryd.ntmps73
  go_wp2_with fail
  refine (HK.out _ HS0.out.d HS0.out.rd).mono ?_
  rintro x w1 ⟨rfl, hr, hgr⟩
  have hs := HS0.out.call hr hgr
  clear hr hgr HK
  have c := hs.upd.c1
  have f := hs.upd.f0 1
  have HS1 := Lib.hid (hs.store1 2)
  clear hs HS0
  go_wp2_with fail
  refine (HY.out _ HS1.out.d HS1.out.rd).mono ?_
  rintro x w2 ⟨rfl, hr, hgr⟩
  have hs := HS1.out.call hr hgr
  clear hr hgr HY
  have c1 := (hs.store0 y).upd.c1
  have c := hs.upd.c0
  have f := hs.upd.f0 0
  have HS2 := Lib.hid (hs.store0 y)
  clear hs HS1
  go_wp2_with fail
  refine (HS.out _ HS2.out.d HS2.out.rd).mono ?_
  rintro x w3 ⟨rfl, hr, hgr⟩
  have hs := HS2.out.call hr hgr
  clear hr hgr HS
  have c := hs.upd.c3
  have f := hs.upd.f0 3
  have HS3 := Lib.hid (hs.store3 s)
  clear hs HS2
  have d0 := HS3.out.upd.c0
  have d1 := HS3.out.upd.c1
  have d2 := HS3.out.upd.c2
  have d3 := HS3.out.upd.c3
  have o0 := HS3.out.out.c0
  have o1 := HS3.out.out.c1
  have o2 := HS3.out.out.c2
  have o3 := HS3.out.out.c3
  have g0 := HS3.out.out.f0 0
  have g1 := HS3.out.out.f0 1
  have g2 := HS3.out.out.f0 2
  have g3 := HS3.out.out.f0 3
  simp only [up0] at d0 d1 d2 d3 o0 o1 o2 o3
  go_wp2_with fail
  refine (err_any b _ _ _ HS3.out.rd).mono ?_
  rintro x w9 ⟨rfl, rfl⟩
  go_wp2
  refine bodyPost_ret (v := .agg #[.string ⟨#[]⟩, .int .i64 0, .int .i64 0, .string ⟨#[]⟩]) (by simp [results, Tryd.results73, go_sem, o0, o1, o2, o3]) rfl ⟨rfl, HS3.out.rd.set4 (by omega) _ _ _ _, grown_set4 HS3.out.g (Nat.le_refl _) _ _ _ _⟩
set_option maxHeartbeats 1000000 in
theorem crd_2 (b : Nat) (R0 R1 R2 R3 y : ByteArray) (s : ByteArray) (E0 E1 E2 : Int) (hb : 0 < b) (w : World) (hd : Wd w) (h : Rd w b R0 E0)
    (HK : Hid (∀ w, Wd w → Rd w b R0 E0 → Calls Tryd.prog 89 #[.pointer (some ⟨b, 0, none⟩)] w fun x w' => x = .returned (.int .i64 2) ∧ Rd w' b R1 E1 ∧ w.grownBy w' (some b)))
    (HY : Hid (∀ w, Wd w → Rd w b R1 E1 → Calls Tryd.prog 90 #[.pointer (some ⟨b, 0, none⟩)] w fun x w' => x = .returned (.string y) ∧ Rd w' b R2 E2 ∧ w.grownBy w' (some b)))
    (HS : Hid (∀ w, Wd w → Rd w b R2 E2 → Calls Tryd.prog 92 #[.pointer (some ⟨b, 0, none⟩), .int .i64 32] w fun x w' => x = .returned (.string s) ∧ Rd w' b R3 0 ∧ w.grownBy w' (some b))) :
    Calls Tryd.prog 73 #[.pointer (some ⟨b, 0, none⟩)] w fun x w' => x = .returned (.agg #[.string y, .int .i64 2, .int .i64 0, .string s]) ∧ Rd w' b R3 0 ∧ w.grownBy w' (some b) := by
  have HS0 := Lib.hid (RS.start hb hd h)
  have hlt := h.lt
  clear hd h
  go_enter Tryd.func73, Tryd.ntmps73
  go_wp2_with fail
  refine (HK.out _ HS0.out.d HS0.out.rd).mono ?_
  rintro x w1 ⟨rfl, hr, hgr⟩
  have hs := HS0.out.call hr hgr
  clear hr hgr HK
  have c := hs.upd.c1
  have f := hs.upd.f0 1
  have HS1 := Lib.hid (hs.store1 2)
  clear hs HS0
  go_wp2_with fail
  refine (HY.out _ HS1.out.d HS1.out.rd).mono ?_
  rintro x w2 ⟨rfl, hr, hgr⟩
  have hs := HS1.out.call hr hgr
  clear hr hgr HY
  have c1 := (hs.store0 y).upd.c1
  have c := hs.upd.c0
  have f := hs.upd.f0 0
  have HS2 := Lib.hid (hs.store0 y)
  clear hs HS1
  go_wp2_with fail
  refine (HS.out _ HS2.out.d HS2.out.rd).mono ?_
  rintro x w3 ⟨rfl, hr, hgr⟩
  have hs := HS2.out.call hr hgr
  clear hr hgr HS
  have c := hs.upd.c3
  have f := hs.upd.f0 3
  have HS3 := Lib.hid (hs.store3 s)
  clear hs HS2
  have d0 := HS3.out.upd.c0
  have d1 := HS3.out.upd.c1
  have d2 := HS3.out.upd.c2
  have d3 := HS3.out.upd.c3
  have o0 := HS3.out.out.c0
  have o1 := HS3.out.out.c1
  have o2 := HS3.out.out.c2
  have o3 := HS3.out.out.c3
  have g0 := HS3.out.out.f0 0
  have g1 := HS3.out.out.f0 1
  have g2 := HS3.out.out.f0 2
  have g3 := HS3.out.out.f0 3
  simp only [up0] at d0 d1 d2 d3 o0 o1 o2 o3
  go_wp2_with fail
  refine (err_any b _ _ _ HS3.out.rd).mono ?_
  rintro x w9 ⟨rfl, rfl⟩
  go_wp2
  refine bodyPost_ret (v := .agg #[.string y, .int .i64 2, .int .i64 0, .string s]) (by simp [results, Tryd.results73, go_sem, o0, o1, o2, o3]) rfl ⟨rfl, HS3.out.rd.set4 (by omega) _ _ _ _, grown_set4 HS3.out.g (Nat.le_refl _) _ _ _ _⟩
set_option maxHeartbeats 1000000 in
theorem crd_4z (b : Nat) (R0 R1 R2 R3 y : ByteArray) (s : ByteArray) (E0 E1 E2 E3 : Int) (hE : E3 ≠ 0) (hb : 0 < b) (w : World) (hd : Wd w) (h : Rd w b R0 E0)
    (HK : Hid (∀ w, Wd w → Rd w b R0 E0 → Calls Tryd.prog 89 #[.pointer (some ⟨b, 0, none⟩)] w fun x w' => x = .returned (.int .i64 4) ∧ Rd w' b R1 E1 ∧ w.grownBy w' (some b)))
    (HY : Hid (∀ w, Wd w → Rd w b R1 E1 → Calls Tryd.prog 90 #[.pointer (some ⟨b, 0, none⟩)] w fun x w' => x = .returned (.string y) ∧ Rd w' b R2 E2 ∧ w.grownBy w' (some b)))
    (HS : Hid (∀ w, Wd w → Rd w b R2 E2 → Calls Tryd.prog 92 #[.pointer (some ⟨b, 0, none⟩), .int .i64 32] w fun x w' => x = .returned (.string s) ∧ Rd w' b R3 E3 ∧ w.grownBy w' (some b))) :
    Calls Tryd.prog 73 #[.pointer (some ⟨b, 0, none⟩)] w fun x w' => x = .returned (.agg #[.string ⟨#[]⟩, .int .i64 0, .int .i64 0, .string ⟨#[]⟩]) ∧ Rd w' b R3 E3 ∧ w.grownBy w' (some b) := by
  have HS0 := Lib.hid (RS.start hb hd h)
  have hlt := h.lt
  clear hd h
  have k1 : (E3 == 0) = false := by rw [beq_eq_false_iff_ne]; exact hE
  go_enter Tryd.func73, Tryd.ntmps73
  go_wp2_with fail
  refine (HK.out _ HS0.out.d HS0.out.rd).mono ?_
  rintro x w1 ⟨rfl, hr, hgr⟩
  have hs := HS0.out.call hr hgr
  clear hr hgr HK
  have c := hs.upd.c1
  have f := hs.upd.f0 1
  have HS1 := Lib.hid (hs.store1 4)
  clear hs HS0
  go_wp2_with fail
  refine (HY.out _ HS1.out.d HS1.out.rd).mono ?_
  rintro x w2 ⟨rfl, hr, hgr⟩
  have hs := HS1.out.call hr hgr
  clear hr hgr HY
  have c1 := (hs.store0 y).upd.c1
  have c := hs.upd.c0
  have f := hs.upd.f0 0
  have HS2 := Lib.hid (hs.store0 y)
  clear hs HS1
  go_wp2_with fail
  refine (HS.out _ HS2.out.d HS2.out.rd).mono ?_
  rintro x w3 ⟨rfl, hr, hgr⟩
  have hs := HS2.out.call hr hgr
  clear hr hgr HS
  have c := hs.upd.c3
  have f := hs.upd.f0 3
  have HS3 := Lib.hid (hs.store3 s)
  clear hs HS2
  have d0 := HS3.out.upd.c0
  have d1 := HS3.out.upd.c1
  have d2 := HS3.out.upd.c2
  have d3 := HS3.out.upd.c3
  have o0 := HS3.out.out.c0
  have o1 := HS3.out.out.c1
  have o2 := HS3.out.out.c2
  have o3 := HS3.out.out.c3
  have g0 := HS3.out.out.f0 0
  have g1 := HS3.out.out.f0 1
  have g2 := HS3.out.out.f0 2
  have g3 := HS3.out.out.f0 3
  simp only [up0] at d0 d1 d2 d3 o0 o1 o2 o3
  go_wp2_with fail
  refine (err_any b _ _ _ HS3.out.rd).mono ?_
  rintro x w9 ⟨rfl, rfl⟩
  go_wp2
  refine bodyPost_ret (v := .agg #[.string ⟨#[]⟩, .int .i64 0, .int .i64 0, .string ⟨#[]⟩]) (by simp [results, Tryd.results73, go_sem, o0, o1, o2, o3]) rfl ⟨rfl, HS3.out.rd.set4 (by omega) _ _ _ _, grown_set4 HS3.out.g (Nat.le_refl _) _ _ _ _⟩
set_option maxHeartbeats 1000000 in
theorem crd_4 (b : Nat) (R0 R1 R2 R3 y : ByteArray) (s : ByteArray) (E0 E1 E2 : Int) (hb : 0 < b) (w : World) (hd : Wd w) (h : Rd w b R0 E0)
    (HK : Hid (∀ w, Wd w → Rd w b R0 E0 → Calls Tryd.prog 89 #[.pointer (some ⟨b, 0, none⟩)] w fun x w' => x = .returned (.int .i64 4) ∧ Rd w' b R1 E1 ∧ w.grownBy w' (some b)))
    (HY : Hid (∀ w, Wd w → Rd w b R1 E1 → Calls Tryd.prog 90 #[.pointer (some ⟨b, 0, none⟩)] w fun x w' => x = .returned (.string y) ∧ Rd w' b R2 E2 ∧ w.grownBy w' (some b)))
    (HS : Hid (∀ w, Wd w → Rd w b R2 E2 → Calls Tryd.prog 92 #[.pointer (some ⟨b, 0, none⟩), .int .i64 32] w fun x w' => x = .returned (.string s) ∧ Rd w' b R3 0 ∧ w.grownBy w' (some b))) :
    Calls Tryd.prog 73 #[.pointer (some ⟨b, 0, none⟩)] w fun x w' => x = .returned (.agg #[.string y, .int .i64 4, .int .i64 0, .string s]) ∧ Rd w' b R3 0 ∧ w.grownBy w' (some b) := by
  have HS0 := Lib.hid (RS.start hb hd h)
  have hlt := h.lt
  clear hd h
  go_enter Tryd.func73, Tryd.ntmps73
  go_wp2_with fail
  refine (HK.out _ HS0.out.d HS0.out.rd).mono ?_
  rintro x w1 ⟨rfl, hr, hgr⟩
  have hs := HS0.out.call hr hgr
  clear hr hgr HK
  have c := hs.upd.c1
  have f := hs.upd.f0 1
  have HS1 := Lib.hid (hs.store1 4)
  clear hs HS0
  go_wp2_with fail
  refine (HY.out _ HS1.out.d HS1.out.rd).mono ?_
  rintro x w2 ⟨rfl, hr, hgr⟩
  have hs := HS1.out.call hr hgr
  clear hr hgr HY
  have c1 := (hs.store0 y).upd.c1
  have c := hs.upd.c0
  have f := hs.upd.f0 0
  have HS2 := Lib.hid (hs.store0 y)
  clear hs HS1
  go_wp2_with fail
  refine (HS.out _ HS2.out.d HS2.out.rd).mono ?_
  rintro x w3 ⟨rfl, hr, hgr⟩
  have hs := HS2.out.call hr hgr
  clear hr hgr HS
  have c := hs.upd.c3
  have f := hs.upd.f0 3
  have HS3 := Lib.hid (hs.store3 s)
  clear hs HS2
  have d0 := HS3.out.upd.c0
  have d1 := HS3.out.upd.c1
  have d2 := HS3.out.upd.c2
  have d3 := HS3.out.upd.c3
  have o0 := HS3.out.out.c0
  have o1 := HS3.out.out.c1
  have o2 := HS3.out.out.c2
  have o3 := HS3.out.out.c3
  have g0 := HS3.out.out.f0 0
  have g1 := HS3.out.out.f0 1
  have g2 := HS3.out.out.f0 2
  have g3 := HS3.out.out.f0 3
  simp only [up0] at d0 d1 d2 d3 o0 o1 o2 o3
  go_wp2_with fail
  refine (err_any b _ _ _ HS3.out.rd).mono ?_
  rintro x w9 ⟨rfl, rfl⟩
  go_wp2
  refine bodyPost_ret (v := .agg #[.string y, .int .i64 4, .int .i64 0, .string s]) (by simp [results, Tryd.results73, go_sem, o0, o1, o2, o3]) rfl ⟨rfl, HS3.out.rd.set4 (by omega) _ _ _ _, grown_set4 HS3.out.g (Nat.le_refl _) _ _ _ _⟩
end Go.Proofs.YtjmkdgjdemndaaaDoor.X
