/- The program's Push. -/
import Derived.Test.YtbbgibekplfacaaDoorRH
import Derived.Test.YtbbgibekplfacaaDoorN5
namespace Go.Proofs.YtbbgibekplfacaaDoor
open Go Go.RowKit
set_option maxRecDepth 20000
theorem Pk.set3 {B b : Nat} {w : World} {F : Nat → Prop} {s : Cs} (h : Pk B w b F s) {g : Nat} (hg : ¬ F g) (x0 x1 x2 : Value) : Pk B (((w.setCell ⟨g, 0, none⟩ x0).setCell ⟨g, 1, none⟩ x1).setCell ⟨g, 2, none⟩ x2) b F s :=
  h.keep fun x hx => by
    have hne : x ≠ g := fun e => hg (e ▸ hx)
    rw [Below.heap_setCell _ _ _ _ hne, Below.heap_setCell _ _ _ _ hne, Below.heap_setCell _ _ _ _ hne]
theorem pk_nil {B b jb : Nat} {w : World} {FJ S : Nat → Prop} {v vo : Value} {rs : List Rn} {s : Cs} (h : Pq B w b jb FJ v S rs vo s) :
    Pk B (w.setCell ⟨b, 6, none⟩ (.slice none 0 0)) b (Pf b v S FJ (.slice none 0 0)) { s with op := [] } :=
  ⟨jb, FJ, v, S, rs, _, ⟨h.kn.set (by decide) (by decide) 6 _, h.mp, h.jx.setnew (h.ap b (.inl rfl)) _ _, .inl ⟨rfl, rfl⟩, h.ap, fun x hx => by cases hx⟩, rfl⟩
theorem pq_add {B b jb : Nat} {w w' : World} {FJ FJ' S : Nat → Prop} {v vo : Value} {rs : List Rn} {s : Cs} {us : List Up} {r : Rn} (h : Pq B w b jb FJ v S rs vo s) (ha : AddW 94 B w w' jb FJ FJ' s.o s.last s.uss us r) :
    Pq B w' b jb FJ' v S rs vo { s with uss := addL s.o s.last s.uss us } := by
  have hn : ∀ x, ¬ FJ x → x < w.heap.size → ¬ FJ' x := fun x hx hl hf => by
    rcases ha.new x hf with hy | hy
    · exact hx hy
    · omega
  refine ⟨h.kn.keep fun x hx => ha.lv.block x (h.foot x (.inl hx)).2 (h.ap x hx), h.mp, ha.jx, h.op.keep fun x hx => ha.lv.block x (h.foot x (.inr (.inr hx))).2 (h.ao x hx).2, fun x hx => hn x (h.ap x hx) (h.foot x (.inl hx)).2, fun x hx => ⟨(h.ao x hx).1, hn x (h.ao x hx).2 (h.foot x (.inr (.inr hx))).2⟩⟩
/-- What Push tells. -/
structure PushR (s : Cs) (r : Rn) : Prop where
  o' : r.o = if s.pushE = 0 then s.o else 0
  n' : r.n = if s.pushE = 0 then ((s.uss.length + 1 : Nat) : Int) else 0
  us' : r.us = if s.pushE = 0 then s.op else []
theorem push_no {s : Cs} (h : ¬ s.pushE = 0) : s.push = s := by
  unfold Cs.push
  rw [if_neg h]
theorem pushR_no {s : Cs} (h : ¬ s.pushE = 0) : PushR s rn0 := ⟨by rw [if_neg h]; rfl, by rw [if_neg h]; rfl, by rw [if_neg h]; rfl⟩
/-- How it stands within Push, behind the journal's Add: the result's block is the first new one. -/
structure PushA (B : Nat) (w W : World) (b jb : Nat) (FJ FJ2 : Nat → Prop) (v : Value) (S : Nat → Prop) (rs : List Rn) (vo : Value) (s : Cs) (r : Rn) : Prop where
  q : Pq B W b jb FJ2 v S rs vo { s with uss := addL s.o s.last s.uss s.op }
  res : Rb W w.heap.size 0 0 none 0 0
  lv : Lv w W FJ
  ru : Ru W r
  ar : AddR s.o s.last s.uss s.op r
  nw : ∀ x, FJ2 x → FJ x ∨ w.heap.size + 1 ≤ x
  own : addE s.o s.last s.uss s.op = 0 → Own (w.heap.size + 1) W r ∧ ∀ g off, r.a = some ⟨g, off, none⟩ → ¬ FJ2 g
/-- .. and the round that it told in block rb. -/
structure PushM (B : Nat) (w W : World) (b jb rb : Nat) (FJ FJ2 : Nat → Prop) (v : Value) (S : Nat → Prop) (rs : List Rn) (vo : Value) (s : Cs) (r : Rn) : Prop where
  a : PushA B w W b jb FJ FJ2 v S rs vo s r
  rr : Rb W rb r.o r.n r.a r.len r.cap
  lt : w.heap.size < rb
section
variable {B b jb rb : Nat} {w W w2 : World} {FJ FJ2 S : Nat → Prop} {v vo : Value} {rs : List Rn} {s : Cs} {r : Rn}
theorem rb_no_us {w : World} {b off len l c : Nat} {o n : Int} {a : Option Addr} {us : List Up} (h : Rb w b o n a l c) (hu : IsUs w (some ⟨b, off, none⟩) len us) (h0 : 0 < len) : False := by
  obtain ⟨b', off', e, hf⟩ := hu.lies h0
  cases e
  have hk := hf.key 0 (by rw [hu.size]; exact h0)
  unfold Rb at h
  simp only [World.cell?, h, Nat.zero_mul, Nat.add_zero] at hk
  rcases (show off = 0 ∨ off = 1 ∨ off = 2 ∨ 3 ≤ off by omega) with rfl | rfl | rfl | h3
  · simp at hk
  · simp at hk
  · simp at hk
  · simp [Array.getElem?_eq_none (show (#[Value.int .i64 o, Value.int .i64 n, Value.slice a l c]).size ≤ off from h3)] at hk
theorem push_a (hq : Pq B w b jb FJ v S rs vo s) (hb : Below w.heap.size w W) (hs : w.heap.size + 1 ≤ W.heap.size) (hres : Rb W w.heap.size 0 0 none 0 0) (ha : AddW 94 B W w2 jb FJ FJ2 s.o s.last s.uss s.op r)
    (hown : addE s.o s.last s.uss s.op = 0 → Own W.heap.size w2 r) (hoff : ∀ g off, r.a = some ⟨g, off, none⟩ → ¬ FJ2 g) : PushA B w w2 b jb FJ FJ2 v S rs vo s r := by
  have hnf : ¬ FJ w.heap.size := fun e => by have := (hq.jx.foot _ e).2; omega
  refine ⟨pq_add (hq.next hb) ha, (ha.lv.block _ hres.lt hnf).trans hres, (Lv.ofBelow hb FJ).trans ha.lv, ha.ru, ha.r, fun x hx => ?_, fun he => ⟨?_, hoff⟩⟩
  · rcases ha.new x hx with hy | hy
    · exact .inl hy
    · exact .inr (by omega)
  · obtain ⟨g, e, hr, hg, e1, e2⟩ := hown he
    exact ⟨g, e, hr, by omega, e1, e2⟩
theorem push_m1 (h : PushA B w w2 b jb FJ FJ2 v S rs vo s r) : PushM B w (w2.alloc (.cells #[.int .i64 r.o, .int .i64 r.n, .slice r.a r.len r.cap] 35)) b jb w2.heap.size FJ FJ2 v S rs vo s r := by
  have hb := Joins.below_alloc1 w2 (.cells #[.int .i64 r.o, .int .i64 r.n, .slice r.a r.len r.cap] 35)
  refine ⟨⟨h.q.next hb, h.res.next hb, h.lv.trans (Lv.ofBelow hb FJ), h.ru.below hb, h.ar, h.nw, fun he => ⟨?_, (h.own he).2⟩⟩, Rb.new _ _ _ _ _ _, h.res.lt⟩
  obtain ⟨g, e, hr, hg, e1, e2⟩ := (h.own he).1
  exact ⟨g, e, hr.next hb, hg, e1, e2⟩
theorem push_m2 (h : PushA B w w2 b jb FJ FJ2 v S rs vo s r) (hrv : Rb w2 rb 0 0 none 0 0) (hlt : w.heap.size < rb) (hnp : ∀ x, Pf b v S FJ2 vo x → x ≠ rb) :
    PushM B w (((w2.setCell ⟨rb, 0, none⟩ (.int .i64 r.o)).setCell ⟨rb, 1, none⟩ (.int .i64 r.n)).setCell ⟨rb, 2, none⟩ (.slice r.a r.len r.cap)) b jb rb FJ FJ2 v S rs vo s r := by
  have hne : ∀ x, x ≠ rb → (((w2.setCell ⟨rb, 0, none⟩ (.int .i64 r.o)).setCell ⟨rb, 1, none⟩ (.int .i64 r.n)).setCell ⟨rb, 2, none⟩ (.slice r.a r.len r.cap)).heap[x]? = w2.heap[x]? := fun x hx => by
    rw [Below.heap_setCell _ _ _ _ hx, Below.heap_setCell _ _ _ _ hx, Below.heap_setCell _ _ _ _ hx]
  have hw : w.heap.size ≠ rb := by omega
  refine ⟨⟨h.q.keep fun x hx => hne x (hnp x hx), (hne _ hw).trans h.res, ⟨h.lv.os, h.lv.tape, h.lv.output, by simpa using h.lv.size, fun x hx hf => (hne x (by omega)).trans (h.lv.block x hx hf)⟩, ⟨isUs_keep h.ru.1 fun h0 g off e => hne g fun e2 => rb_no_us hrv (by have := h.ru.1; rw [e, e2] at this; exact this) h0, h.ru.2⟩, h.ar, h.nw, fun he => ⟨?_, (h.own he).2⟩⟩, ((hrv.set0 _).set1 _).set2 _ _ _, hlt⟩
  obtain ⟨g, e, hr, hg, e1, e2⟩ := (h.own he).1
  exact ⟨g, e, (hne g (two_types hr hrv (by decide))).trans hr, hg, e1, e2⟩
end
theorem push_fin {B b jb rb : Nat} {w W : World} {FJ FJ2 S : Nat → Prop} {v vo : Value} {rs : List Rn} {s : Cs} {r : Rn} (hq : Pq B w b jb FJ v S rs vo s) (hm : PushM B w W b jb rb FJ FJ2 v S rs vo s r) (he : addE s.o s.last s.uss s.op = 0) (hp : s.pushE = 0) :
    PkW B w ((((W.setCell ⟨b, 6, none⟩ (.slice none 0 0)).setCell ⟨w.heap.size, 0, none⟩ (.int .i64 r.o)).setCell ⟨w.heap.size, 1, none⟩ (.int .i64 r.n)).setCell ⟨w.heap.size, 2, none⟩ (.slice r.a r.len r.cap)) b (Pf b v S FJ vo) (Pf b v S FJ2 (.slice none 0 0)) s.push ∧
    Own w.heap.size ((((W.setCell ⟨b, 6, none⟩ (.slice none 0 0)).setCell ⟨w.heap.size, 0, none⟩ (.int .i64 r.o)).setCell ⟨w.heap.size, 1, none⟩ (.int .i64 r.n)).setCell ⟨w.heap.size, 2, none⟩ (.slice r.a r.len r.cap)) r ∧
    (∀ g off, r.a = some ⟨g, off, none⟩ → ¬ Pf b v S FJ2 (.slice none 0 0) g) ∧ PushR s r := by
  have hlt := hq.lt
  have hW := hm.a.res.lt
  have hg0 : ¬ Pf b v S FJ2 (.slice none 0 0) w.heap.size := fun hx => by
    rcases hx with hx | hx | hx
    · have := (hq.foot _ (.inl hx)).2; omega
    · rcases hm.a.nw _ hx with hy | hy
      · have := (hq.jx.foot _ hy).2; omega
      · omega
    · cases hx
  have e1 : s.push = { { s with uss := addL s.o s.last s.uss s.op } with op := [] } := by
    unfold Cs.push addL
    rw [if_pos hp, if_pos he]
  obtain ⟨⟨g, e, hr, hg, l1, l2⟩, hoff⟩ := hm.a.own he
  have hgb : g ≠ b := by omega
  refine ⟨⟨?_, ?_, fun x hx => ?_⟩, ⟨g, e, ?_, by omega, l1, l2⟩, fun g' off e' hx => ?_, ?_⟩
  · rw [e1]
    exact (pk_nil hm.a.q).set3 hg0 _ _ _
  · have h1 : Lv w W (Pf b v S FJ vo) := ⟨hm.a.lv.os, hm.a.lv.tape, hm.a.lv.output, hm.a.lv.size, fun x hx hf => hm.a.lv.block x hx fun hj => hf (.inr (.inl hj))⟩
    have h2 := h1.trans (Lv.set (.inl (.inl rfl)) 6 (.slice none 0 0))
    refine ⟨h2.os, h2.tape, h2.output, by simpa using h2.size, fun x hx hf => ?_⟩
    have hne : x ≠ w.heap.size := by omega
    rw [Below.heap_setCell _ _ _ _ hne, Below.heap_setCell _ _ _ _ hne, Below.heap_setCell _ _ _ _ hne]
    exact h2.block x hx hf
  · rcases hx with hx | hx | hx
    · exact .inl (.inl hx)
    · rcases hm.a.nw _ hx with hy | hy
      · exact .inl (.inr (.inl hy))
      · exact .inr (by omega)
    · cases hx
  · have hgw : g ≠ w.heap.size := by omega
    exact (((hr.setnew hgb _ _).setnew hgw _ _).setnew hgw _ _).setnew hgw _ _
  · rw [e] at e'
    cases e'
    rcases hx with hx | hx | hx
    · have := (hq.foot _ (.inl hx)).2; omega
    · exact hoff g 0 e hx
    · cases hx
  · have h1 := hm.a.ar.o'
    have h2 := hm.a.ar.n'
    have h3 := hm.a.ar.us'
    rw [if_pos he] at h1 h2 h3
    exact ⟨by rw [if_pos hp]; exact h1, by rw [if_pos hp]; exact h2, by rw [if_pos hp]; exact h3⟩
theorem push_err {B b jb rb : Nat} {w W : World} {FJ FJ2 S : Nat → Prop} {v vo : Value} {rs : List Rn} {s : Cs} {r : Rn} {x0 x1 x2 : Value} (hq : Pq B w b jb FJ v S rs vo s) (hm : PushM B w W b jb rb FJ FJ2 v S rs vo s r) (he : ¬ addE s.o s.last s.uss s.op = 0) :
    PkW B w (((W.setCell ⟨w.heap.size, 0, none⟩ x0).setCell ⟨w.heap.size, 1, none⟩ x1).setCell ⟨w.heap.size, 2, none⟩ x2) b (Pf b v S FJ vo) (Pf b v S FJ2 vo) s := by
  have hg0 : ¬ Pf b v S FJ2 vo w.heap.size := fun hx => by
    rcases hx with hx | hx | hx
    · have := (hq.foot _ (.inl hx)).2; omega
    · rcases hm.a.nw _ hx with hy | hy
      · have := (hq.jx.foot _ hy).2; omega
      · omega
    · have := (hq.foot _ (.inr (.inr hx))).2; omega
  have e1 : ({ s with uss := addL s.o s.last s.uss s.op } : Cs) = s := by
    unfold addL
    rw [if_neg he]
  have h0 : Pk B W b (Pf b v S FJ2 vo) s := by
    have : Pk B W b (Pf b v S FJ2 vo) { s with uss := addL s.o s.last s.uss s.op } := ⟨jb, FJ2, v, S, rs, vo, hm.a.q, rfl⟩
    rw [e1] at this
    exact this
  refine ⟨h0.set3 hg0 _ _ _, ⟨hm.a.lv.os, hm.a.lv.tape, hm.a.lv.output, by simpa using hm.a.lv.size, fun x hx hf => ?_⟩, fun x hx => ?_⟩
  · have hne : x ≠ w.heap.size := by omega
    rw [Below.heap_setCell _ _ _ _ hne, Below.heap_setCell _ _ _ _ hne, Below.heap_setCell _ _ _ _ hne]
    exact hm.a.lv.block x hx fun hj => hf (.inr (.inl hj))
  · rcases hx with hx | hx | hx
    · exact .inl (.inl hx)
    · rcases hm.a.nw _ hx with hy | hy
      · exact .inl (.inr (.inl hy))
      · exact .inr (by omega)
    · exact .inl (.inr (.inr hx))
section
variable {B b : Nat} {F : Nat → Prop} {s : Cs}
set_option maxHeartbeats 8000000 in
theorem cpush_none (h0 : s.op.length = 0) (w : World) (h : Pk B w b F s) :
    Calls Tryd.prog 25 #[.pointer (some ⟨b, 0, none⟩)] w fun e w' => e = .returned (.tuple #[rv rn0, .int .i64 11]) ∧ Below w.heap.size w w' := by
  have hA := Joins.below_alloc1 w (.cells #[.int .i64 0, .int .i64 0, .slice none 0 0] 35)
  have hr := Rb.new w 0 0 none 0 0
  have r0 := hr.f0 0
  have r1 := hr.f0 1
  have r2 := hr.f0 2
  obtain ⟨jb, FJ, v, S, rs, vo, hq, rfl⟩ := h
  obtain ⟨a, c, rfl, _⟩ := hq.op.is
  have c6 := (hq.next hA).c6
  rw [h0] at c6
  have HB := Lib.hid hA
  clear hq hA hr h0
  go_enter Tryd.func25, Tryd.ntmps25
  go_wp2
  refine bodyPost_ret (v := .tuple #[.agg #[.int .i64 0, .int .i64 0, .slice none 0 0], .int .i64 11]) (by simp [results, Tryd.results25, go_sem]) rfl ⟨rfl, HB.out⟩
set_option maxHeartbeats 8000000 in
theorem cpush_full (hk : s.k ≤ s.uss.length) (hn : s.uss.length ≤ 1000) (h0 : ¬ s.op.length = 0) (hm : s.most ≤ (s.uss.length : Int) - s.k) (w : World) (h : Pk B w b F s) :
    Calls Tryd.prog 25 #[.pointer (some ⟨b, 0, none⟩)] w fun e w' => e = .returned (.tuple #[rv rn0, .int .i64 7]) ∧ Below w.heap.size w w' := by
  have hA := Joins.below_alloc1 w (.cells #[.int .i64 0, .int .i64 0, .slice none 0 0] 35)
  have hr := Rb.new w 0 0 none 0 0
  have r0 := hr.f0 0
  have r1 := hr.f0 1
  have r2 := hr.f0 2
  have HX := Lib.hid (h.next hA)
  have HP := fun n => Lib.hid (cpending_any hk hn ((w.alloc (.cells #[.int .i64 0, .int .i64 0, .slice none 0 0] 35)).drewN n) ((h.next hA).asit rfl))
  obtain ⟨D, hD⟩ : ∃ D, (s.uss.length : Int) - s.k = D := ⟨_, rfl⟩
  rw [hD] at HP hm
  have q1 : decide (s.most ≤ D) = true := decide_eq_true hm
  have q0 : ((s.op.length : Int) == 0) = false := beq_false_of_ne (by omega)
  obtain ⟨jb, FJ, v, S, rs, vo, hq, rfl⟩ := h
  obtain ⟨a, c, rfl, _⟩ := hq.op.is
  have c6 := (hq.next hA).c6
  have c3 := (hq.next hA).c3
  have HB := Lib.hid hA
  clear hq hA hr h0 hm hD HX
  go_enter Tryd.func25, Tryd.ntmps25
  go_wp2_with fail
  go_quiet ((go_at_call 42; exact Calls.quiet_of ((HP _).out)))
  revert nq
  intro n1
  go_wp2
  refine bodyPost_ret (v := .tuple #[.agg #[.int .i64 0, .int .i64 0, .slice none 0 0], .int .i64 7]) (by simp [results, Tryd.results25, go_sem]) rfl ⟨rfl, below_set3 (belN HB.out _) (Nat.le_refl _) _ _ _⟩
set_option maxHeartbeats 8000000 in
theorem cpush_err (hk : s.k ≤ s.uss.length) (hn : s.uss.length ≤ 1000) (h0 : ¬ s.op.length = 0) (hm : ¬ s.most ≤ (s.uss.length : Int) - s.k) (hsm : Sm s.op) (er : Int) (hz : ¬ er = 0) (he : addE s.o s.last s.uss s.op = er) (w : World) (h : Pk B w b F s) :
    Calls Tryd.prog 25 #[.pointer (some ⟨b, 0, none⟩)] w fun e w' => e = .returned (.tuple #[rv rn0, .int .i64 er]) ∧ ∃ F', PkW B w w' b F F' s := by
  have hA := Joins.below_alloc1 w (.cells #[.int .i64 0, .int .i64 0, .slice none 0 0] 35)
  have hr := Rb.new w 0 0 none 0 0
  have r0 := hr.f0 0
  have r1 := hr.f0 1
  have r2 := hr.f0 2
  have HX := Lib.hid (h.next hA)
  have HP := fun n => Lib.hid (cpending_any hk hn ((w.alloc (.cells #[.int .i64 0, .int .i64 0, .slice none 0 0] 35)).drewN n) ((h.next hA).asit rfl))
  obtain ⟨D, hD⟩ : ∃ D, (s.uss.length : Int) - s.k = D := ⟨_, rfl⟩
  rw [hD] at HP hm
  have q1 : decide (s.most ≤ D) = false := decide_eq_false hm
  have q0 : ((s.op.length : Int) == 0) = false := beq_false_of_ne (by omega)
  obtain ⟨jb, FJ, v, S, rs, vo, hq, rfl⟩ := h
  obtain ⟨a, c, rfl, hu, _⟩ := hq.op.is
  have c0 := (hq.next hA).c0
  have c6 := (hq.next hA).c6
  have c3 := (hq.next hA).c3
  have HA := Lib.hid hA
  have HQ := Lib.hid hq
  have HU := Lib.hid hu
  have HR := Lib.hid hr
  have HSM := Lib.hid hsm
  have HN := Lib.hid hn
  have HE := Lib.hid he
  have HNE : Hid (¬ addE s.o s.last s.uss s.op = 0) := Lib.hid (by rw [he]; exact hz)
  have k1 : (er != 0) = true := by rw [bne_iff_ne]; exact hz
  have HLT := Lib.hid hq.lt
  have HLO := Lib.hid hq.kn.lo
  have HSZ : Hid ((w.alloc (.cells #[.int .i64 0, .int .i64 0, .slice none 0 0] 35)).heap.size = w.heap.size + 1) := Lib.hid (by simp)
  clear hq hA hr h0 hm hD hu hsm hn he HX hk hz
  go_enter Tryd.func25, Tryd.ntmps25
  go_wp2_with fail
  go_quiet ((go_at_call 42; exact Calls.quiet_of ((HP _).out)))
  revert nq
  intro n1
  go_upto_region 5 with fail
  generalize hX : (w.alloc (.cells #[.int .i64 0, .int .i64 0, .slice none 0 0] 35)).drewN n1 = X at *
  have HX0 : Hid (Below w.heap.size w X.drew) := by
    have := belN HA.out (n1 + 1)
    refine Lib.hid ?_
    rw [← hX]
    exact this
  have HBX : Hid (Below w.heap.size w X) := by
    have := belN HA.out n1
    refine Lib.hid ?_
    rw [← hX]
    exact this
  have HXR : Hid (Rb X.drew w.heap.size 0 0 none 0 0) := by
    have := HR.out.drewN (n1 + 1)
    refine Lib.hid ?_
    rw [← hX]
    exact this
  have HXS : Hid (X.heap.size = w.heap.size + 1) := by
    refine Lib.hid ?_
    rw [← hX]
    exact HSZ.out
  have e0 : X.drew.cell? ⟨b, 0, none⟩ = some (.pointer (some ⟨jb, 0, none⟩)) := (HQ.out.next HX0.out).c0
  have e6 : X.drew.cell? ⟨b, 6, none⟩ = some (.slice a s.op.length c) := (HQ.out.next HX0.out).c6
  clear HA HR HSZ c0 c6 c3 HP
  have HB0 := HX0
  have HRB0 := HXR
  have HS0 : Hid (w.heap.size + 1 ≤ (X).heap.size) := Lib.hid (by have := HXS.out; omega)
  clear hX
  go_wp2_with fail
  go_cut [4, 5] from 21 to 33 (fun v4 v5 wx => ∃ (rb : Nat) (r : Rn) (FJ2 : Nat → Prop), v4 = .pointer (some ⟨rb, 0, none⟩) ∧ v5 = .int .i64 er ∧ PushM B w wx b jb rb FJ FJ2 v S rs (.slice a s.op.length c) s r)
  case first =>
    refine wp_region_held_drew (S := fun w' => w'.cell? ⟨b, 0, none⟩ = some (.pointer (some ⟨jb, 0, none⟩)) ∧ w'.cell? ⟨b, 6, none⟩ = some (.slice a s.op.length c)) (by kernel_rfl) ?_ (fun hH => ?_)
    · exact ⟨e0, e6⟩
    refine tkH 0 ?_ ?_ ?_
    rotate_left
    · intro w h; try dsimp only at h
      obtain ⟨q0, q6⟩ := h; go_simp; all_goals with_reducible rfl
    try simp only [pt]
    refine tkH 1 ?_ ?_ ?_
    rotate_left
    · intro w h; try dsimp only at h
      obtain ⟨q0, q6⟩ := h; go_simp; all_goals with_reducible rfl
    try simp only [pt]
    refine tkH 2 ?_ ?_ ?_
    rotate_left
    · intro w h; try dsimp only at h
      obtain ⟨q0, q6⟩ := h; go_simp; all_goals with_reducible rfl
    try simp only [pt]
    refine tkH 3 ?_ ?_ ?_
    rotate_left
    · intro w h; try dsimp only at h
      obtain ⟨q0, q6⟩ := h; go_simp; all_goals with_reducible rfl
    try simp only [pt]
    refine tkH 4 ?_ ?_ ?_
    rotate_left
    · intro w h; try dsimp only at h
      obtain ⟨q0, q6⟩ := h; go_simp; all_goals with_reducible rfl
    try simp only [pt]
    refine tkH 5 ?_ ?_ ?_
    rotate_left
    · intro w h; try dsimp only at h
      obtain ⟨q0, q6⟩ := h; go_simp; all_goals with_reducible rfl
    try simp only [pt]
    refine tkH 6 ?_ ?_ ?_
    rotate_left
    · intro w h; try dsimp only at h
      obtain ⟨q0, q6⟩ := h; go_simp; all_goals with_reducible rfl
    try simp only [pt]
    refine tkH 7 ?_ ?_ ?_
    rotate_left
    · intro w h; try dsimp only at h
      obtain ⟨q0, q6⟩ := h; go_simp; all_goals with_reducible rfl
    try simp only [pt]
    refine wpAnyH_ready (rs := [8, 12]) (by kernel_rfl) (by simp) ?_
    refine rdH (fun K hK => ?_) ?_
    · go_simp
      have hbW : Below w.heap.size w X.drew := HB0.out
      refine (jadd_any HN.out a s.op.length c HSM.out X.drew (isUs_below HU.out hbW) (fun g off e => by subst e; exact (HQ.out.ao g rfl).2) (HQ.out.next hbW).jx).mono ?_
      rintro e w2 ⟨r, FJ2, rfl, ha, hown, hoff⟩
      have hA2 := push_a HQ.out hbW HS0.out HRB0.out ha hown hoff
      rw [HE.out]
      have y0 := hA2.q.c0
      have y6 := hA2.q.c6
      have HA2 := Lib.hid hA2
      clear hA2 ha hown hoff hbW
      simp only [rv]
      go_wp2_with fail
      refine hK.out _ _ ?_ (fun hH => ?_)
      · exact ⟨y0, y6⟩
      clear hK K
      try simp only [pt]
      refine tkH 9 ?_ ?_ ?_
      rotate_left
      · intro w h; try dsimp only at h
        obtain ⟨q0, q6⟩ := h; go_simp; all_goals with_reducible rfl
      try simp only [pt]
      refine tkH 10 ?_ ?_ ?_
      rotate_left
      · intro w h; try dsimp only at h
        obtain ⟨q0, q6⟩ := h; go_simp; all_goals with_reducible rfl
      try simp only [pt]
      refine tkH 11 ?_ ?_ ?_
      rotate_left
      · intro w h; try dsimp only at h
        obtain ⟨q0, q6⟩ := h; go_simp; all_goals with_reducible rfl
      try simp only [pt]
      refine wpAnyH_ready (rs := [12]) (by kernel_rfl) (by simp) ?_
      refine rdH (fun K hK => ?_) ?_
      · have hq3 := HA2.out.q.next (Joins.below_alloc1 w2 (.cells #[.int .i64 0, .int .i64 0, .slice none 0 0] 35))
        have v0 := hq3.c0
        have v6 := hq3.c6
        have HM := Lib.hid (push_m1 HA2.out)
        have u0 := HM.out.a.q.c0
        have u6 := HM.out.a.q.c6
        clear hq3
        go_simp
        refine hK.out _ _ ?_ (fun hH => ?_)
        · exact ⟨v0, v6⟩
        clear hK K
        try simp only [pt]
        refine wpAnyH_ready (rs := [13]) (by kernel_rfl) (by simp) ?_
        refine rdH (fun K hK => ?_) ?_
        · go_simp
          refine hK.out _ _ ?_ (fun hH => ?_)
          · exact ⟨u0, u6⟩
          clear hK K
          try simp only [pt]
          refine tkH 14 ?_ ?_ ?_
          rotate_left
          · intro w h; try dsimp only at h
            obtain ⟨q0, q6⟩ := h; go_simp; all_goals with_reducible rfl
          try simp only [pt]
          refine wpAnyH_done (by kernel_rfl) ?_ _
          clear u0 u6 v0 v6 y0 y6 e0 e6
          go_wp2_with fail
          go_meet
          case rel => exact ⟨_, r, FJ2, rfl, rfl, HM.out⟩
        exact AllReadyH.nil
      exact AllReadyH.nil
    refine rdH (fun K hK => ?_) ?_
    · have HB1 : Hid (Below w.heap.size w (X.alloc (.cells #[.int .i64 0, .int .i64 0, .slice none 0 0] 35))) := Lib.hid (Below.step (w1 := X) HBX.out (.cells #[.int .i64 0, .int .i64 0, .slice none 0 0] 35) (Below.refl _ _))
      have hq1 := HQ.out.next HB1.out
      have v0 := hq1.c0
      have v6 := hq1.c6
      have HRB1 : Hid (Rb (X.alloc (.cells #[.int .i64 0, .int .i64 0, .slice none 0 0] 35)) w.heap.size 0 0 none 0 0) := Lib.hid (Rb.alloc (show Rb X w.heap.size 0 0 none 0 0 from HXR.out) (.cells #[.int .i64 0, .int .i64 0, .slice none 0 0] 35))
      have HRV1 : Hid (Rb (X.alloc (.cells #[.int .i64 0, .int .i64 0, .slice none 0 0] 35)) X.heap.size 0 0 none 0 0) := Lib.hid (Rb.new X 0 0 none 0 0)
      have HS1 : Hid (w.heap.size + 1 ≤ (X.alloc (.cells #[.int .i64 0, .int .i64 0, .slice none 0 0] 35)).heap.size) := Lib.hid (by have := HXS.out; simp; omega)
      clear hq1
      go_simp
      refine hK.out _ _ ?_ (fun hH => ?_)
      · exact ⟨v0, v6⟩
      clear hK K
      try simp only [pt]
      refine wpAnyH_ready (rs := [8]) (by kernel_rfl) (by simp) ?_
      refine rdH (fun K hK => ?_) ?_
      · go_simp
        have hbW : Below w.heap.size w (X.alloc (.cells #[.int .i64 0, .int .i64 0, .slice none 0 0] 35)).drew := HB1.out.drew
        refine (jadd_any HN.out a s.op.length c HSM.out (X.alloc (.cells #[.int .i64 0, .int .i64 0, .slice none 0 0] 35)).drew (isUs_below HU.out hbW) (fun g off e => by subst e; exact (HQ.out.ao g rfl).2) (HQ.out.next hbW).jx).mono ?_
        rintro e w2 ⟨r, FJ2, rfl, ha, hown, hoff⟩
        have hA2 := push_a HQ.out hbW HS1.out HRB1.out ha hown hoff
        rw [HE.out]
        have y0 := hA2.q.c0
        have y6 := hA2.q.c6
        have HA2 := Lib.hid hA2
        have hrv2 : Rb w2 X.heap.size 0 0 none 0 0 := (ha.lv.block _ HRV1.out.lt (fun e => by have := (HQ.out.jx.foot _ e).2; have := HXS.out; omega)).trans HRV1.out
        have HM := Lib.hid (push_m2 HA2.out hrv2 (by have := HXS.out; omega) (fun x hx e => by
          have hxs := HXS.out
          rcases hx with hx | hx | hx
          · have := (HQ.out.foot x (.inl hx)).2; omega
          · rcases ha.new x hx with hy | hy
            · have := (HQ.out.jx.foot x hy).2; omega
            · simp at hy; omega
          · have := (HQ.out.foot x (.inr (.inr hx))).2; omega))
        have x3 := hrv2.f0 0
        have x4 := hrv2.f0 1
        have x5 := hrv2.f0 2
        have x0 := hrv2.c0
        have x1 := hrv2.c1
        have x2 := hrv2.c2
        have u0 := HM.out.a.q.c0
        have u6 := HM.out.a.q.c6
        clear hrv2
        clear hA2 ha hown hoff hbW
        simp only [rv]
        go_wp2_with fail
        refine hK.out _ _ ?_ (fun hH => ?_)
        · exact ⟨y0, y6⟩
        clear hK K
        try simp only [pt]
        refine tkH 9 ?_ ?_ ?_
        rotate_left
        · intro w h; try dsimp only at h
          obtain ⟨q0, q6⟩ := h; go_simp; all_goals with_reducible rfl
        try simp only [pt]
        refine tkH 10 ?_ ?_ ?_
        rotate_left
        · intro w h; try dsimp only at h
          obtain ⟨q0, q6⟩ := h; go_simp; all_goals with_reducible rfl
        try simp only [pt]
        refine tkH 11 ?_ ?_ ?_
        rotate_left
        · intro w h; try dsimp only at h
          obtain ⟨q0, q6⟩ := h; go_simp; all_goals with_reducible rfl
        try simp only [pt]
        refine wpAnyH_ready (rs := [13]) (by kernel_rfl) (by simp) ?_
        refine rdH (fun K hK => ?_) ?_
        · go_simp
          refine hK.out _ _ ?_ (fun hH => ?_)
          · exact ⟨u0, u6⟩
          clear hK K
          try simp only [pt]
          refine tkH 14 ?_ ?_ ?_
          rotate_left
          · intro w h; try dsimp only at h
            obtain ⟨q0, q6⟩ := h; go_simp; all_goals with_reducible rfl
          try simp only [pt]
          refine wpAnyH_done (by kernel_rfl) ?_ _
          clear u0 u6 v0 v6 y0 y6 e0 e6 x0 x1 x2 x3 x4 x5
          go_wp2_with fail
          go_meet
          case rel => exact ⟨_, r, FJ2, rfl, rfl, HM.out⟩
        exact AllReadyH.nil
      exact AllReadyH.nil
    exact AllReadyH.nil
  case rest =>
    obtain ⟨rb, ⟨ro, rn, ra, rl, rc, rus⟩, FJ2, rfl, rfl, hm⟩ := hcut
    have HM := Lib.hid hm
    clear hm e0 e6
    have g0' := HM.out.a.res.c0
    have g1' := HM.out.a.res.c1
    have g2' := HM.out.a.res.c2
    have f0 := HM.out.a.res.f0 0
    have f1 := HM.out.a.res.f0 1
    have f2 := HM.out.a.res.f0 2
    have h0' := ((HM.out.a.res.set0 0).set1 0).set2 none 0 0
    have k0' := h0'.c0
    have k1' := h0'.c1
    have k2' := h0'.c2
    clear h0'
    go_wp2
    refine bodyPost_ret (v := .tuple #[.agg #[.int .i64 0, .int .i64 0, .slice none 0 0], .int .i64 er]) (by simp [results, Tryd.results25, go_sem, k0', k1', k2']) rfl ⟨rfl, _, push_err HQ.out HM.out HNE.out⟩
set_option maxHeartbeats 8000000 in
theorem cpush_ok (hk : s.k ≤ s.uss.length) (hn : s.uss.length ≤ 1000) (h0 : ¬ s.op.length = 0) (hm : ¬ s.most ≤ (s.uss.length : Int) - s.k) (hsm : Sm s.op) (he : addE s.o s.last s.uss s.op = 0) (hp : s.pushE = 0) (w : World) (h : Pk B w b F s) :
    Calls Tryd.prog 25 #[.pointer (some ⟨b, 0, none⟩)] w fun e w' => ∃ r F', e = .returned (.tuple #[rv r, .int .i64 0]) ∧ PkW B w w' b F F' s.push ∧ Own w.heap.size w' r ∧ (∀ g off, r.a = some ⟨g, off, none⟩ → ¬ F' g) ∧ PushR s r := by
  have hA := Joins.below_alloc1 w (.cells #[.int .i64 0, .int .i64 0, .slice none 0 0] 35)
  have hr := Rb.new w 0 0 none 0 0
  have r0 := hr.f0 0
  have r1 := hr.f0 1
  have r2 := hr.f0 2
  have HX := Lib.hid (h.next hA)
  have HP := fun n => Lib.hid (cpending_any hk hn ((w.alloc (.cells #[.int .i64 0, .int .i64 0, .slice none 0 0] 35)).drewN n) ((h.next hA).asit rfl))
  obtain ⟨D, hD⟩ : ∃ D, (s.uss.length : Int) - s.k = D := ⟨_, rfl⟩
  rw [hD] at HP hm
  have q1 : decide (s.most ≤ D) = false := decide_eq_false hm
  have q0 : ((s.op.length : Int) == 0) = false := beq_false_of_ne (by omega)
  obtain ⟨jb, FJ, v, S, rs, vo, hq, rfl⟩ := h
  obtain ⟨a, c, rfl, hu, _⟩ := hq.op.is
  have c0 := (hq.next hA).c0
  have c6 := (hq.next hA).c6
  have c3 := (hq.next hA).c3
  have HA := Lib.hid hA
  have HQ := Lib.hid hq
  have HU := Lib.hid hu
  have HR := Lib.hid hr
  have HSM := Lib.hid hsm
  have HN := Lib.hid hn
  have HE := Lib.hid he
  have HPE := Lib.hid hp
  have HLT := Lib.hid hq.lt
  have HLO := Lib.hid hq.kn.lo
  have HSZ : Hid ((w.alloc (.cells #[.int .i64 0, .int .i64 0, .slice none 0 0] 35)).heap.size = w.heap.size + 1) := Lib.hid (by simp)
  clear hq hA hr h0 hm hD hu hsm hn he HX hk hp
  go_enter Tryd.func25, Tryd.ntmps25
  go_wp2_with fail
  go_quiet ((go_at_call 42; exact Calls.quiet_of ((HP _).out)))
  revert nq
  intro n1
  go_upto_region 5 with fail
  generalize hX : (w.alloc (.cells #[.int .i64 0, .int .i64 0, .slice none 0 0] 35)).drewN n1 = X at *
  have HX0 : Hid (Below w.heap.size w X.drew) := by
    have := belN HA.out (n1 + 1)
    refine Lib.hid ?_
    rw [← hX]
    exact this
  have HBX : Hid (Below w.heap.size w X) := by
    have := belN HA.out n1
    refine Lib.hid ?_
    rw [← hX]
    exact this
  have HXR : Hid (Rb X.drew w.heap.size 0 0 none 0 0) := by
    have := HR.out.drewN (n1 + 1)
    refine Lib.hid ?_
    rw [← hX]
    exact this
  have HXS : Hid (X.heap.size = w.heap.size + 1) := by
    refine Lib.hid ?_
    rw [← hX]
    exact HSZ.out
  have e0 : X.drew.cell? ⟨b, 0, none⟩ = some (.pointer (some ⟨jb, 0, none⟩)) := (HQ.out.next HX0.out).c0
  have e6 : X.drew.cell? ⟨b, 6, none⟩ = some (.slice a s.op.length c) := (HQ.out.next HX0.out).c6
  clear HA HR HSZ c0 c6 c3 HP
  have HB0 := HX0
  have HRB0 := HXR
  have HS0 : Hid (w.heap.size + 1 ≤ (X).heap.size) := Lib.hid (by have := HXS.out; omega)
  clear hX
  go_wp2_with fail
  go_cut [4, 5] from 21 to 33 (fun v4 v5 wx => ∃ (rb : Nat) (r : Rn) (FJ2 : Nat → Prop), v4 = .pointer (some ⟨rb, 0, none⟩) ∧ v5 = .int .i64 0 ∧ PushM B w wx b jb rb FJ FJ2 v S rs (.slice a s.op.length c) s r)
  case first =>
    refine wp_region_held_drew (S := fun w' => w'.cell? ⟨b, 0, none⟩ = some (.pointer (some ⟨jb, 0, none⟩)) ∧ w'.cell? ⟨b, 6, none⟩ = some (.slice a s.op.length c)) (by kernel_rfl) ?_ (fun hH => ?_)
    · exact ⟨e0, e6⟩
    refine tkH 0 ?_ ?_ ?_
    rotate_left
    · intro w h; try dsimp only at h
      obtain ⟨q0, q6⟩ := h; go_simp; all_goals with_reducible rfl
    try simp only [pt]
    refine tkH 1 ?_ ?_ ?_
    rotate_left
    · intro w h; try dsimp only at h
      obtain ⟨q0, q6⟩ := h; go_simp; all_goals with_reducible rfl
    try simp only [pt]
    refine tkH 2 ?_ ?_ ?_
    rotate_left
    · intro w h; try dsimp only at h
      obtain ⟨q0, q6⟩ := h; go_simp; all_goals with_reducible rfl
    try simp only [pt]
    refine tkH 3 ?_ ?_ ?_
    rotate_left
    · intro w h; try dsimp only at h
      obtain ⟨q0, q6⟩ := h; go_simp; all_goals with_reducible rfl
    try simp only [pt]
    refine tkH 4 ?_ ?_ ?_
    rotate_left
    · intro w h; try dsimp only at h
      obtain ⟨q0, q6⟩ := h; go_simp; all_goals with_reducible rfl
    try simp only [pt]
    refine tkH 5 ?_ ?_ ?_
    rotate_left
    · intro w h; try dsimp only at h
      obtain ⟨q0, q6⟩ := h; go_simp; all_goals with_reducible rfl
    try simp only [pt]
    refine tkH 6 ?_ ?_ ?_
    rotate_left
    · intro w h; try dsimp only at h
      obtain ⟨q0, q6⟩ := h; go_simp; all_goals with_reducible rfl
    try simp only [pt]
    refine tkH 7 ?_ ?_ ?_
    rotate_left
    · intro w h; try dsimp only at h
      obtain ⟨q0, q6⟩ := h; go_simp; all_goals with_reducible rfl
    try simp only [pt]
    refine wpAnyH_ready (rs := [8, 12]) (by kernel_rfl) (by simp) ?_
    refine rdH (fun K hK => ?_) ?_
    · go_simp
      have hbW : Below w.heap.size w X.drew := HB0.out
      refine (jadd_any HN.out a s.op.length c HSM.out X.drew (isUs_below HU.out hbW) (fun g off e => by subst e; exact (HQ.out.ao g rfl).2) (HQ.out.next hbW).jx).mono ?_
      rintro e w2 ⟨r, FJ2, rfl, ha, hown, hoff⟩
      have hA2 := push_a HQ.out hbW HS0.out HRB0.out ha hown hoff
      rw [HE.out]
      have y0 := hA2.q.c0
      have y6 := hA2.q.c6
      have HA2 := Lib.hid hA2
      clear hA2 ha hown hoff hbW
      simp only [rv]
      go_wp2_with fail
      refine hK.out _ _ ?_ (fun hH => ?_)
      · exact ⟨y0, y6⟩
      clear hK K
      try simp only [pt]
      refine tkH 9 ?_ ?_ ?_
      rotate_left
      · intro w h; try dsimp only at h
        obtain ⟨q0, q6⟩ := h; go_simp; all_goals with_reducible rfl
      try simp only [pt]
      refine tkH 10 ?_ ?_ ?_
      rotate_left
      · intro w h; try dsimp only at h
        obtain ⟨q0, q6⟩ := h; go_simp; all_goals with_reducible rfl
      try simp only [pt]
      refine tkH 11 ?_ ?_ ?_
      rotate_left
      · intro w h; try dsimp only at h
        obtain ⟨q0, q6⟩ := h; go_simp; all_goals with_reducible rfl
      try simp only [pt]
      refine wpAnyH_ready (rs := [12]) (by kernel_rfl) (by simp) ?_
      refine rdH (fun K hK => ?_) ?_
      · have hq3 := HA2.out.q.next (Joins.below_alloc1 w2 (.cells #[.int .i64 0, .int .i64 0, .slice none 0 0] 35))
        have v0 := hq3.c0
        have v6 := hq3.c6
        have HM := Lib.hid (push_m1 HA2.out)
        have u0 := HM.out.a.q.c0
        have u6 := HM.out.a.q.c6
        clear hq3
        go_simp
        refine hK.out _ _ ?_ (fun hH => ?_)
        · exact ⟨v0, v6⟩
        clear hK K
        try simp only [pt]
        refine wpAnyH_ready (rs := [13]) (by kernel_rfl) (by simp) ?_
        refine rdH (fun K hK => ?_) ?_
        · go_simp
          refine hK.out _ _ ?_ (fun hH => ?_)
          · exact ⟨u0, u6⟩
          clear hK K
          try simp only [pt]
          refine tkH 14 ?_ ?_ ?_
          rotate_left
          · intro w h; try dsimp only at h
            obtain ⟨q0, q6⟩ := h; go_simp; all_goals with_reducible rfl
          try simp only [pt]
          refine wpAnyH_done (by kernel_rfl) ?_ _
          clear u0 u6 v0 v6 y0 y6 e0 e6
          go_wp2_with fail
          go_meet
          case rel => exact ⟨_, r, FJ2, rfl, rfl, HM.out⟩
        exact AllReadyH.nil
      exact AllReadyH.nil
    refine rdH (fun K hK => ?_) ?_
    · have HB1 : Hid (Below w.heap.size w (X.alloc (.cells #[.int .i64 0, .int .i64 0, .slice none 0 0] 35))) := Lib.hid (Below.step (w1 := X) HBX.out (.cells #[.int .i64 0, .int .i64 0, .slice none 0 0] 35) (Below.refl _ _))
      have hq1 := HQ.out.next HB1.out
      have v0 := hq1.c0
      have v6 := hq1.c6
      have HRB1 : Hid (Rb (X.alloc (.cells #[.int .i64 0, .int .i64 0, .slice none 0 0] 35)) w.heap.size 0 0 none 0 0) := Lib.hid (Rb.alloc (show Rb X w.heap.size 0 0 none 0 0 from HXR.out) (.cells #[.int .i64 0, .int .i64 0, .slice none 0 0] 35))
      have HRV1 : Hid (Rb (X.alloc (.cells #[.int .i64 0, .int .i64 0, .slice none 0 0] 35)) X.heap.size 0 0 none 0 0) := Lib.hid (Rb.new X 0 0 none 0 0)
      have HS1 : Hid (w.heap.size + 1 ≤ (X.alloc (.cells #[.int .i64 0, .int .i64 0, .slice none 0 0] 35)).heap.size) := Lib.hid (by have := HXS.out; simp; omega)
      clear hq1
      go_simp
      refine hK.out _ _ ?_ (fun hH => ?_)
      · exact ⟨v0, v6⟩
      clear hK K
      try simp only [pt]
      refine wpAnyH_ready (rs := [8]) (by kernel_rfl) (by simp) ?_
      refine rdH (fun K hK => ?_) ?_
      · go_simp
        have hbW : Below w.heap.size w (X.alloc (.cells #[.int .i64 0, .int .i64 0, .slice none 0 0] 35)).drew := HB1.out.drew
        refine (jadd_any HN.out a s.op.length c HSM.out (X.alloc (.cells #[.int .i64 0, .int .i64 0, .slice none 0 0] 35)).drew (isUs_below HU.out hbW) (fun g off e => by subst e; exact (HQ.out.ao g rfl).2) (HQ.out.next hbW).jx).mono ?_
        rintro e w2 ⟨r, FJ2, rfl, ha, hown, hoff⟩
        have hA2 := push_a HQ.out hbW HS1.out HRB1.out ha hown hoff
        rw [HE.out]
        have y0 := hA2.q.c0
        have y6 := hA2.q.c6
        have HA2 := Lib.hid hA2
        have hrv2 : Rb w2 X.heap.size 0 0 none 0 0 := (ha.lv.block _ HRV1.out.lt (fun e => by have := (HQ.out.jx.foot _ e).2; have := HXS.out; omega)).trans HRV1.out
        have HM := Lib.hid (push_m2 HA2.out hrv2 (by have := HXS.out; omega) (fun x hx e => by
          have hxs := HXS.out
          rcases hx with hx | hx | hx
          · have := (HQ.out.foot x (.inl hx)).2; omega
          · rcases ha.new x hx with hy | hy
            · have := (HQ.out.jx.foot x hy).2; omega
            · simp at hy; omega
          · have := (HQ.out.foot x (.inr (.inr hx))).2; omega))
        have x3 := hrv2.f0 0
        have x4 := hrv2.f0 1
        have x5 := hrv2.f0 2
        have x0 := hrv2.c0
        have x1 := hrv2.c1
        have x2 := hrv2.c2
        have u0 := HM.out.a.q.c0
        have u6 := HM.out.a.q.c6
        clear hrv2
        clear hA2 ha hown hoff hbW
        simp only [rv]
        go_wp2_with fail
        refine hK.out _ _ ?_ (fun hH => ?_)
        · exact ⟨y0, y6⟩
        clear hK K
        try simp only [pt]
        refine tkH 9 ?_ ?_ ?_
        rotate_left
        · intro w h; try dsimp only at h
          obtain ⟨q0, q6⟩ := h; go_simp; all_goals with_reducible rfl
        try simp only [pt]
        refine tkH 10 ?_ ?_ ?_
        rotate_left
        · intro w h; try dsimp only at h
          obtain ⟨q0, q6⟩ := h; go_simp; all_goals with_reducible rfl
        try simp only [pt]
        refine tkH 11 ?_ ?_ ?_
        rotate_left
        · intro w h; try dsimp only at h
          obtain ⟨q0, q6⟩ := h; go_simp; all_goals with_reducible rfl
        try simp only [pt]
        refine wpAnyH_ready (rs := [13]) (by kernel_rfl) (by simp) ?_
        refine rdH (fun K hK => ?_) ?_
        · go_simp
          refine hK.out _ _ ?_ (fun hH => ?_)
          · exact ⟨u0, u6⟩
          clear hK K
          try simp only [pt]
          refine tkH 14 ?_ ?_ ?_
          rotate_left
          · intro w h; try dsimp only at h
            obtain ⟨q0, q6⟩ := h; go_simp; all_goals with_reducible rfl
          try simp only [pt]
          refine wpAnyH_done (by kernel_rfl) ?_ _
          clear u0 u6 v0 v6 y0 y6 e0 e6 x0 x1 x2 x3 x4 x5
          go_wp2_with fail
          go_meet
          case rel => exact ⟨_, r, FJ2, rfl, rfl, HM.out⟩
        exact AllReadyH.nil
      exact AllReadyH.nil
    exact AllReadyH.nil
  case rest =>
    obtain ⟨rb, ⟨ro, rn, ra, rl, rc, rus⟩, FJ2, rfl, rfl, hm⟩ := hcut
    have HM := Lib.hid hm
    clear hm e0 e6
    have f6 := HM.out.a.q.f0 6
    have z6 := HM.out.a.q.c6
    have hne : rb ≠ b := by have := HLT.out; have := HM.out.lt; omega
    have hne0 : w.heap.size ≠ b := by have := HLT.out; omega
    have hrr4 := HM.out.rr.setnew hne 6 (.slice none 0 0)
    have hr4 := HM.out.a.res.setnew hne0 6 (.slice none 0 0)
    have d0 := hrr4.c0
    have d1 := hrr4.c1
    have d2 := hrr4.c2
    have g0' := hr4.c0
    have g1' := hr4.c1
    have g2' := hr4.c2
    have f0 := hr4.f0 0
    have f1 := hr4.f0 1
    have f2 := hr4.f0 2
    have h0' := ((hr4.set0 ro).set1 rn).set2 ra rl rc
    have k0' := h0'.c0
    have k1' := h0'.c1
    have k2' := h0'.c2
    have HFIN := Lib.hid (push_fin HQ.out HM.out HE.out HPE.out)
    clear h0' hr4 hrr4 hne hne0
    go_wp2
    refine bodyPost_ret (v := .tuple #[.agg #[.int .i64 ro, .int .i64 rn, .slice ra rl rc], .int .i64 0]) (by simp [results, Tryd.results25, go_sem, k0', k1', k2']) rfl ?_
    exact ⟨⟨ro, rn, ra, rl, rc, rus⟩, rfl, Pf b v S FJ2 (.slice none 0 0), HFIN.out⟩
theorem cpush_any (hk : s.k ≤ s.uss.length) (hn : s.uss.length ≤ 1000) (hsm : Sm s.op) (w : World) (h : Pk B w b F s) :
    Calls Tryd.prog 25 #[.pointer (some ⟨b, 0, none⟩)] w fun e w' => ∃ r F', e = .returned (.tuple #[rv r, .int .i64 s.pushE]) ∧ PkW B w w' b F F' s.push ∧ Ru w' r ∧ (∀ g off, r.a = some ⟨g, off, none⟩ → w.heap.size ≤ g ∧ ¬ F' g) ∧ PushR s r := by
  have no : ∀ (er : Int) (w' : World) F', s.pushE = er → ¬ er = 0 → PkW B w w' b F F' s → ∃ r F', (Ending.returned (.tuple #[rv rn0, .int .i64 er]) : Ending) = .returned (.tuple #[rv r, .int .i64 s.pushE]) ∧ PkW B w w' b F F' s.push ∧ Ru w' r ∧ (∀ g off, r.a = some ⟨g, off, none⟩ → w.heap.size ≤ g ∧ ¬ F' g) ∧ PushR s r := fun er w' F' he h0 hp =>
    ⟨rn0, F', by rw [he], by rw [push_no (by rw [he]; exact h0)]; exact hp, ⟨isUs_nil _, Nat.le_refl _, fun _ => rfl⟩, (fun g off e => by cases e), pushR_no (by rw [he]; exact h0)⟩
  by_cases h0 : s.op.length = 0
  · have he : s.pushE = 11 := by show pushE _ _ _ _ _ _ = 11; unfold pushE; rw [if_pos h0]
    refine (cpush_none h0 w h).mono ?_
    rintro e w' ⟨rfl, hb⟩
    exact no 11 w' F he (by decide) (pkW_no h hb)
  by_cases hm : s.most ≤ (s.uss.length : Int) - s.k
  · have he : s.pushE = 7 := by show pushE _ _ _ _ _ _ = 7; unfold pushE; rw [if_neg h0, if_pos hm]
    refine (cpush_full hk hn h0 hm w h).mono ?_
    rintro e w' ⟨rfl, hb⟩
    exact no 7 w' F he (by decide) (pkW_no h hb)
  have he : s.pushE = addE s.o s.last s.uss s.op := by show pushE _ _ _ _ _ _ = _; unfold pushE; rw [if_neg h0, if_neg hm]
  by_cases hz : addE s.o s.last s.uss s.op = 0
  · have hp : s.pushE = 0 := he.trans hz
    refine (cpush_ok hk hn h0 hm hsm hz hp w h).mono ?_
    rintro e w' ⟨r, F', rfl, x1, x2, x3, x4⟩
    refine ⟨r, F', by rw [hp], x1, x2.ru, fun g off e => ⟨?_, x3 g off e⟩, x4⟩
    obtain ⟨g', e', _, hg, _⟩ := x2
    rw [e'] at e
    cases e
    exact hg
  · refine (cpush_err hk hn h0 hm hsm _ hz rfl w h).mono ?_
    rintro e w' ⟨rfl, F', hp⟩
    exact no _ w' F' he hz hp
end
end Go.Proofs.YtbbgibekplfacaaDoor
