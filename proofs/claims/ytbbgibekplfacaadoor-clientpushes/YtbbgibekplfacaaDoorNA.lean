/- The document's Push. -/
import Derived.Test.YtbbgibekplfacaaDoorRH
import Derived.Test.YtbbgibekplfacaaDoorN9
import Derived.Test.YtbbgibekplfacaaDoorN6
namespace Go.Proofs.YtbbgibekplfacaaDoor
open Go Go.RowKit
set_option maxRecDepth 20000
section
variable {B b jb rb : Nat} {w W w2 : World} {FJ FJ2 M : Nat → Prop} {ak ap ao : Option Addr} {lk ck lp cp lo co : Nat} {rk rp : List Rn} {pd : List (List Up)} {s : Cs} {r : Rn}
theorem Dq.added (h : Dq B w b jb FJ M ak lk ck rk ap lp cp rp pd ao lo co s) {us : List Up} (ha : AddW 64 B w w2 jb FJ FJ2 s.o s.last s.uss us r) (hl : Lv w w2 fun x => x = jb) : Dq B w2 b jb FJ2 M ak lk ck rk ap lp cp rp pd ao lo co { s with uss := addL s.o s.last s.uss us } := by
  have hjb : b ≠ jb := fun e => h.bj (e ▸ h.jx.me)
  have hk : ∀ x, M x → w2.heap[x]? = w.heap[x]? := fun x hx => hl.block x (h.mm x hx).1 (h.mm x hx).2.2
  refine ⟨h.hB, (hl.block b h.lt hjb).trans h.blk, ha.jx, fun hf => ?_, h.low, fun x hx => ⟨Nat.lt_of_lt_of_le (h.mm x hx).1 hl.size, (h.mm x hx).2⟩, h.kr.keep hk, h.km, h.pr.keep hk, h.po, h.ou.keep hk⟩
  have := h.lt
  rcases ha.new b hf with hy | hy
  · exact h.bj hy
  · omega
/-- How it stands within the document's Push, behind the journal's Add. -/
structure EpA (B : Nat) (w W : World) (b jb : Nat) (FJ FJ2 M : Nat → Prop) (ak : Option Addr) (lk ck : Nat) (rk : List Rn) (ap : Option Addr) (lp cp : Nat) (rp : List Rn) (pd : List (List Up)) (ao : Option Addr) (lo co : Nat) (s : Cs) (r : Rn) : Prop where
  q : Dq B W b jb FJ2 M ak lk ck rk ap lp cp rp pd ao lo co { s with uss := addL s.o s.last s.uss s.op }
  res : Rb W w.heap.size 0 0 none 0 0
  lv : Lv w W fun x => x = jb
  ru : Ru W r
  ar : AddR s.o s.last s.uss s.op r
  nw : ∀ x, FJ2 x → FJ x ∨ w.heap.size + 1 ≤ x
  nu : ∀ g off, r.a = some ⟨g, off, none⟩ → w.heap.size + 1 ≤ g
structure EpM (B : Nat) (w W : World) (b jb rb : Nat) (FJ FJ2 M : Nat → Prop) (ak : Option Addr) (lk ck : Nat) (rk : List Rn) (ap : Option Addr) (lp cp : Nat) (rp : List Rn) (pd : List (List Up)) (ao : Option Addr) (lo co : Nat) (s : Cs) (r : Rn) : Prop where
  a : EpA B w W b jb FJ FJ2 M ak lk ck rk ap lp cp rp pd ao lo co s r
  rr : Rb W rb r.o r.n r.a r.len r.cap
  lt : w.heap.size < rb
theorem ep_a (hq : Dq B w b jb FJ M ak lk ck rk ap lp cp rp pd ao lo co s) (hb : Below w.heap.size w W) (hs : w.heap.size + 1 ≤ W.heap.size) (hres : Rb W w.heap.size 0 0 none 0 0) (ha : AddW 64 B W w2 jb FJ FJ2 s.o s.last s.uss s.op r) (hl : Lv W w2 fun x => x = jb) (hn : ∀ g off, r.a = some ⟨g, off, none⟩ → W.heap.size ≤ g) : EpA B w w2 b jb FJ FJ2 M ak lk ck rk ap lp cp rp pd ao lo co s r := by
  have hjl := (hq.jx.foot jb hq.jx.me).2
  refine ⟨(hq.next hb).added ha hl, (hl.block _ hres.lt (by omega)).trans hres, (Lv.ofBelow hb _).trans hl, ha.ru, ha.r, fun x hx => ?_, fun g off e => by have := hn g off e; omega⟩
  rcases ha.new x hx with hy | hy
  · exact .inl hy
  · exact .inr (by omega)
theorem ep_m1 (h : EpA B w w2 b jb FJ FJ2 M ak lk ck rk ap lp cp rp pd ao lo co s r) : EpM B w (w2.alloc (.cells #[.int .i64 r.o, .int .i64 r.n, .slice r.a r.len r.cap] 35)) b jb w2.heap.size FJ FJ2 M ak lk ck rk ap lp cp rp pd ao lo co s r := by
  have hb := Joins.below_alloc1 w2 (.cells #[.int .i64 r.o, .int .i64 r.n, .slice r.a r.len r.cap] 35)
  exact ⟨⟨h.q.next hb, h.res.next hb, h.lv.trans (Lv.ofBelow hb _), h.ru.below hb, h.ar, h.nw, h.nu⟩, Rb.new _ _ _ _ _ _, h.res.lt⟩
theorem ep_m2 (h : EpA B w w2 b jb FJ FJ2 M ak lk ck rk ap lp cp rp pd ao lo co s r) (hrv : Rb w2 rb 0 0 none 0 0) (hlt : w.heap.size < rb) (hnp : ∀ x, Df b FJ2 M x → x ≠ rb) :
    EpM B w (((w2.setCell ⟨rb, 0, none⟩ (.int .i64 r.o)).setCell ⟨rb, 1, none⟩ (.int .i64 r.n)).setCell ⟨rb, 2, none⟩ (.slice r.a r.len r.cap)) b jb rb FJ FJ2 M ak lk ck rk ap lp cp rp pd ao lo co s r := by
  have hne : ∀ x, x ≠ rb → (((w2.setCell ⟨rb, 0, none⟩ (.int .i64 r.o)).setCell ⟨rb, 1, none⟩ (.int .i64 r.n)).setCell ⟨rb, 2, none⟩ (.slice r.a r.len r.cap)).heap[x]? = w2.heap[x]? := fun x hx => by
    rw [Below.heap_setCell _ _ _ _ hx, Below.heap_setCell _ _ _ _ hx, Below.heap_setCell _ _ _ _ hx]
  have hw : w.heap.size ≠ rb := by omega
  exact ⟨⟨h.q.keep (by simp) fun x hx => hne x (hnp x hx), (hne _ hw).trans h.res, ⟨h.lv.os, h.lv.tape, h.lv.output, by simpa using h.lv.size, fun x hx hf => (hne x (by omega)).trans (h.lv.block x hx hf)⟩, ⟨isUs_keep h.ru.1 fun h0 g off e => hne g fun e2 => rb_no_us hrv (by have := h.ru.1; rw [e, e2] at this; exact this) h0, h.ru.2⟩, h.ar, h.nw, h.nu⟩, ((hrv.set0 _).set1 _).set2 _ _ _, hlt⟩
/-- How it stands when it returns: w0 with nothing open, w8 behind the row's copy and the round behind it. -/
theorem ep_fin {w0 w8 : World} {a2 : Option Addr} {c2 : Nat} {x0 x1 x2 : Value} (hq : Dq B w b jb FJ M ak lk ck rk ap rp.length cp rp (s.uss.drop s.k) ao lo co s) (hq0 : Dq B w0 b jb FJ2 M ak lk ck rk ap rp.length cp rp (s.uss.drop s.k) none 0 0 { s with uss := s.uss ++ [s.op], op := [] }) (hs : w.heap.size + 1 ≤ w0.heap.size) (hlv : Lv w w0 fun x => x = b ∨ x = jb) (hru : Ru w0 r) (ho : r.o = s.o) (hn : r.n = ((s.uss.length + 1 : Nat) : Int)) (hus : r.us = s.op) (hk : s.k ≤ s.uss.length)
    (hnu : ∀ g off, r.a = some ⟨g, off, none⟩ → w.heap.size + 1 ≤ g) (hnw : ∀ x, FJ2 x → FJ x ∨ w.heap.size + 1 ≤ x) (hb : Below w0.heap.size w0 w8) (hrow : RowR w0.heap.size w8 (.slice a2 (rp.length + 1) c2) (rp ++ [r])) :
    (∃ D', DkW B w ((((w8.setCell ⟨b, 5, none⟩ (.slice a2 (rp.length + 1) c2)).setCell ⟨w.heap.size, 0, none⟩ x0).setCell ⟨w.heap.size, 1, none⟩ x1).setCell ⟨w.heap.size, 2, none⟩ x2) b (Df b FJ M) D' { s with uss := s.uss ++ [s.op], op := [] }) ∧ Ru ((((w8.setCell ⟨b, 5, none⟩ (.slice a2 (rp.length + 1) c2)).setCell ⟨w.heap.size, 0, none⟩ x0).setCell ⟨w.heap.size, 1, none⟩ x1).setCell ⟨w.heap.size, 2, none⟩ x2) r := by
  have hlb := hq.lt
  have hjl := (hq.jx.foot jb hq.jx.me).2
  have h1 := hq0.more (M' := fun x => M x ∨ (w.heap.size + 1 ≤ x ∧ x < w0.heap.size)) (fun x hx => .inl hx) fun x hx => by
    rcases hx with hx | hx
    · exact hq0.mm x hx
    · exact ⟨hx.2, by omega, by omega⟩
  have h2 := h1.grow hb
  have hll : (rp ++ [r]).length = rp.length + 1 := by simp
  obtain ⟨hx, hc, hnn⟩ := hrow.isR hll.symm fun x hx => by
    rcases List.mem_append.1 hx with hx | hx
    · exact (h2.pr.is.each x hx)
    · rw [List.mem_singleton.1 hx]; exact hru.below hb
  have hrm : RsM w8 (Mn (fun x => M x ∨ (w.heap.size + 1 ≤ x ∧ x < w0.heap.size)) w0 w8) a2 (rp.length + 1) c2 (rp ++ [r]) := by
    refine ⟨hx, hc, hnn, fun _ g off e => ?_, fun x hx h0 g off e => ?_⟩
    · subst e
      obtain ⟨hlo, cur, hcur⟩ := hrow.typ g rfl
      exact .inr ⟨hlo, (Array.getElem?_eq_some_iff.1 hcur).1⟩
    · rcases List.mem_append.1 hx with hx | hx
      · exact h2.pr.each x hx h0 g off e
      · rw [List.mem_singleton.1 hx] at e h0
        refine .inl (.inr ⟨hnu g off e, ?_⟩)
        have hl := hru.1
        rw [e] at hl
        obtain ⟨b', off', e2, hf⟩ := hl.lies h0
        cases e2
        exact hf.lt (by rw [hl.size]; exact h0)
  have hof : Of s.o s.k ((s.uss ++ [s.op]).drop s.k) (rp ++ [r]) := by
    have h3 := hq.po.snoc r ho (by rw [hn, List.length_drop]; congr 2; omega)
    rw [hus] at h3
    rw [List.drop_append_of_le_length hk]
    exact h3
  have h3 := h2.setP (k' := s.k) (pd' := (s.uss ++ [s.op]).drop s.k) hrm hof
  have hwM : ¬ Df b FJ2 (Mn (fun x => M x ∨ (w.heap.size + 1 ≤ x ∧ x < w0.heap.size)) w0 w8) w.heap.size := fun hx => by
    rcases hx with hx | hx | hx
    · rcases hx with hx | hx
      · rcases hx with hx | hx
        · have := (hq.mm _ hx).1; omega
        · omega
      · omega
    · omega
    · rcases hnw _ hx with hy | hy
      · have := (hq.jx.foot _ hy).2; omega
      · omega
  have hne : ∀ x, x ≠ w.heap.size → ((((w8.setCell ⟨b, 5, none⟩ (.slice a2 (rp.length + 1) c2)).setCell ⟨w.heap.size, 0, none⟩ x0).setCell ⟨w.heap.size, 1, none⟩ x1).setCell ⟨w.heap.size, 2, none⟩ x2).heap[x]? = (w8.setCell ⟨b, 5, none⟩ (.slice a2 (rp.length + 1) c2)).heap[x]? := fun x hx => by
    rw [Below.heap_setCell _ _ _ _ hx, Below.heap_setCell _ _ _ _ hx, Below.heap_setCell _ _ _ _ hx]
  have h4 := h3.keep (w' := (((w8.setCell ⟨b, 5, none⟩ (.slice a2 (rp.length + 1) c2)).setCell ⟨w.heap.size, 0, none⟩ x0).setCell ⟨w.heap.size, 1, none⟩ x1).setCell ⟨w.heap.size, 2, none⟩ x2) (by simp) fun x hx => hne x fun e => hwM (e ▸ hx)
  have hl := (hlv.trans (Lv.ofBelow hb (fun x => x = b ∨ x = jb))).trans (Lv.set (F := fun x => x = b ∨ x = jb) (.inl rfl) 5 (.slice a2 (rp.length + 1) c2))
  refine ⟨⟨_, ⟨jb, FJ2, _, ak, lk, ck, rk, a2, rp.length + 1, c2, rp ++ [r], none, 0, 0, h4, rfl⟩, ⟨hl.os, hl.tape, hl.output, by simpa using hl.size, fun x hx hn => (hne x (by omega)).trans (hl.block x hx fun e => hn ?_)⟩, fun x hx => ?_⟩, ?_⟩
  · rcases e with rfl | rfl
    · exact ⟨hq.hB, .inr (.inl rfl)⟩
    · exact ⟨(hq.jx.foot _ hq.jx.me).1, .inr (.inr hq.jx.me)⟩
  · rcases hx with hx | hx | hx
    · rcases hx with hx | hx
      · rcases hx with hx | hx
        · exact .inl (.inl hx)
        · exact .inr (by omega)
      · exact .inr (by omega)
    · exact .inl (.inr (.inl hx))
    · rcases hnw _ hx with hy | hy
      · exact .inl (.inr (.inr hy))
      · exact .inr (by omega)
  · have h5 := h4.pr.is.each r (List.mem_append.2 (.inr (List.mem_singleton.2 rfl)))
    exact h5
theorem ep_err {x0 x1 x2 : Value} (hq : Dq B w b jb FJ M ak lk ck rk ap lp cp rp (s.uss.drop s.k) ao lo co s) (hm : EpM B w W b jb rb FJ FJ2 M ak lk ck rk ap lp cp rp (s.uss.drop s.k) ao lo co s r) (he : ¬ addE s.o s.last s.uss s.op = 0) :
    ∃ D', DkW B w (((W.setCell ⟨w.heap.size, 0, none⟩ x0).setCell ⟨w.heap.size, 1, none⟩ x1).setCell ⟨w.heap.size, 2, none⟩ x2) b (Df b FJ M) D' s := by
  have hlb := hq.lt
  have hjl := (hq.jx.foot jb hq.jx.me).2
  have hwM : ¬ Df b FJ2 M w.heap.size := fun hx => by
    rcases hx with hx | hx | hx
    · have := (hq.mm _ hx).1; omega
    · omega
    · rcases hm.a.nw _ hx with hy | hy
      · have := (hq.jx.foot _ hy).2; omega
      · omega
  have hne : ∀ x, x ≠ w.heap.size → (((W.setCell ⟨w.heap.size, 0, none⟩ x0).setCell ⟨w.heap.size, 1, none⟩ x1).setCell ⟨w.heap.size, 2, none⟩ x2).heap[x]? = W.heap[x]? := fun x hx => by
    rw [Below.heap_setCell _ _ _ _ hx, Below.heap_setCell _ _ _ _ hx, Below.heap_setCell _ _ _ _ hx]
  have e1 : ({ s with uss := addL s.o s.last s.uss s.op } : Cs) = s := by
    unfold addL
    rw [if_neg he]
  have h4 := hm.a.q.keep (w' := ((W.setCell ⟨w.heap.size, 0, none⟩ x0).setCell ⟨w.heap.size, 1, none⟩ x1).setCell ⟨w.heap.size, 2, none⟩ x2) (by simp) fun x hx => hne x fun e => hwM (e ▸ hx)
  rw [e1] at h4
  refine ⟨_, ⟨jb, FJ2, M, ak, lk, ck, rk, ap, lp, cp, rp, ao, lo, co, h4, rfl⟩, ⟨hm.a.lv.os, hm.a.lv.tape, hm.a.lv.output, by simpa using hm.a.lv.size, fun x hx hn => (hne x (by omega)).trans (hm.a.lv.block x hx fun e => hn ?_)⟩, fun x hx => ?_⟩
  · rw [e]
    exact ⟨(hq.jx.foot _ hq.jx.me).1, .inr (.inr hq.jx.me)⟩
  · rcases hx with hx | hx | hx
    · exact .inl (.inl hx)
    · exact .inl (.inr (.inl hx))
    · rcases hm.a.nw _ hx with hy | hy
      · exact .inl (.inr (.inr hy))
      · exact .inr (by omega)
end
section
variable {B b : Nat} {D : Nat → Prop} {s : Cs}
set_option maxHeartbeats 8000000 in
theorem dpush_none (h0 : s.op.length = 0) (w : World) (h : Dk B w b D s) :
    Calls Tryd.prog 36 #[.pointer (some ⟨b, 0, none⟩)] w fun e w' => e = .returned (.tuple #[rv rn0, .int .i64 11]) ∧ Below w.heap.size w w' := by
  have hA := Joins.below_alloc1 w (.cells #[.int .i64 0, .int .i64 0, .slice none 0 0] 35)
  have hr := Rb.new w 0 0 none 0 0
  have r0 := hr.f0 0
  have r1 := hr.f0 1
  have r2 := hr.f0 2
  obtain ⟨jb, FJ, M, ak, lk, ck, rk, ap, lp, cp, rp, ao, lo, co, hq, rfl⟩ := h
  obtain rfl : s.op.length = lo := hq.ou.is.size
  obtain rfl : rp.length = lp := hq.pr.is.size
  have c6 := (hq.next hA).c6
  rw [h0] at c6
  have HB := Lib.hid hA
  clear hq hA hr h0
  go_enter Tryd.func36, Tryd.ntmps36
  go_wp2
  refine bodyPost_ret (v := .tuple #[.agg #[.int .i64 0, .int .i64 0, .slice none 0 0], .int .i64 11]) (by simp [results, Tryd.results36, go_sem]) rfl ⟨rfl, HB.out⟩
set_option maxHeartbeats 8000000 in
theorem dpush_full (h0 : ¬ s.op.length = 0) (hm : s.most ≤ (s.uss.length : Int) - s.k) (hk : s.k ≤ s.uss.length) (w : World) (h : Dk B w b D s) :
    Calls Tryd.prog 36 #[.pointer (some ⟨b, 0, none⟩)] w fun e w' => e = .returned (.tuple #[rv rn0, .int .i64 7]) ∧ Below w.heap.size w w' := by
  have hA := Joins.below_alloc1 w (.cells #[.int .i64 0, .int .i64 0, .slice none 0 0] 35)
  have hr := Rb.new w 0 0 none 0 0
  have r0 := hr.f0 0
  have r1 := hr.f0 1
  have r2 := hr.f0 2
  obtain ⟨jb, FJ, M, ak, lk, ck, rk, ap, lp, cp, rp, ao, lo, co, hq, rfl⟩ := h
  obtain rfl : s.op.length = lo := hq.ou.is.size
  obtain rfl : rp.length = lp := hq.pr.is.size
  have c6 := (hq.next hA).c6
  have c5 := (hq.next hA).c5
  have c3 := (hq.next hA).c3
  have hpl := hq.po.len
  rw [List.length_drop] at hpl
  have q1 : decide (s.most ≤ (rp.length : Int)) = true := decide_eq_true (by omega)
  have q0 : ((s.op.length : Int) == 0) = false := beq_false_of_ne (by omega)
  have HB := Lib.hid hA
  clear hq hA hr h0 hm hpl hk
  go_enter Tryd.func36, Tryd.ntmps36
  go_wp2_with fail
  go_quiet (fail)
  revert nq
  intro n1
  go_wp2
  refine bodyPost_ret (v := .tuple #[.agg #[.int .i64 0, .int .i64 0, .slice none 0 0], .int .i64 7]) (by simp [results, Tryd.results36, go_sem]) rfl ⟨rfl, below_set3 (belN HB.out _) (Nat.le_refl _) _ _ _⟩
set_option maxHeartbeats 8000000 in
theorem dpush_err (h0 : ¬ s.op.length = 0) (hm : ¬ s.most ≤ (s.uss.length : Int) - s.k) (hk : s.k ≤ s.uss.length) (hn : s.uss.length ≤ 1000) (hsm : Sm s.op) (er : Int) (hz : ¬ er = 0) (he : addE s.o s.last s.uss s.op = er) (w : World) (h : Dk B w b D s) :
    Calls Tryd.prog 36 #[.pointer (some ⟨b, 0, none⟩)] w fun e w' => e = .returned (.tuple #[rv rn0, .int .i64 er]) ∧ ∃ D', DkW B w w' b D D' s := by
  have hA := Joins.below_alloc1 w (.cells #[.int .i64 0, .int .i64 0, .slice none 0 0] 35)
  have hr := Rb.new w 0 0 none 0 0
  have r0 := hr.f0 0
  have r1 := hr.f0 1
  have r2 := hr.f0 2
  obtain ⟨jb, FJ, M, ak, lk, ck, rk, ap, lp, cp, rp, ao, lo, co, hq, rfl⟩ := h
  obtain rfl : s.op.length = lo := hq.ou.is.size
  obtain rfl : rp.length = lp := hq.pr.is.size
  have c6 := (hq.next hA).c6
  have c5 := (hq.next hA).c5
  have c3 := (hq.next hA).c3
  have hpl := hq.po.len
  rw [List.length_drop] at hpl
  have q1 : decide (s.most ≤ (rp.length : Int)) = false := decide_eq_false (by omega)
  have q0 : ((s.op.length : Int) == 0) = false := beq_false_of_ne (by omega)
  have HA := Lib.hid hA
  have HQ := Lib.hid hq
  have HR := Lib.hid hr
  have HSM := Lib.hid hsm
  have HN := Lib.hid hn
  have HE := Lib.hid he
  have HNE : Hid (¬ addE s.o s.last s.uss s.op = 0) := Lib.hid (by rw [he]; exact hz)
  have k1 : (er != 0) = true := by rw [bne_iff_ne]; exact hz
  have HK := Lib.hid hk
  have HPL := Lib.hid hpl
  have HLT := Lib.hid hq.lt
  have HJL := Lib.hid (hq.jx.foot jb hq.jx.me).2
  have HSZ : Hid ((w.alloc (.cells #[.int .i64 0, .int .i64 0, .slice none 0 0] 35)).heap.size = w.heap.size + 1) := Lib.hid (by simp)
  clear hq hA hr h0 hm hsm hn he hk hpl hz
  go_enter Tryd.func36, Tryd.ntmps36
  go_wp2_with fail
  go_quiet (fail)
  revert nq
  intro n1
  go_upto_region 5 with fail
  generalize hX : (w.alloc (.cells #[.int .i64 0, .int .i64 0, .slice none 0 0] 35)).drewN n1 = X at *
  have HX0 : Hid (Below w.heap.size w X) := by
    have := belN HA.out n1
    refine Lib.hid ?_
    rw [← hX]
    exact this
  have HXR : Hid (Rb X w.heap.size 0 0 none 0 0) := by
    have := HR.out.drewN n1
    refine Lib.hid ?_
    rw [← hX]
    exact this
  have HXS : Hid (X.heap.size = w.heap.size + 1) := by
    refine Lib.hid ?_
    rw [← hX]
    exact HSZ.out
  have e0 : X.drew.cell? ⟨b, 0, none⟩ = some (.pointer (some ⟨jb, 0, none⟩)) := (HQ.out.next HX0.out).c0
  have e6 : X.drew.cell? ⟨b, 6, none⟩ = some (.slice ao s.op.length co) := (HQ.out.next HX0.out).c6
  have HB0 := HX0
  have HRB0 := HXR
  have HS0 : Hid (w.heap.size + 1 ≤ X.heap.size) := Lib.hid (by have := HXS.out; omega)
  clear HA HR HSZ c6 c5 c3
  clear hX
  go_wp2_with fail
  go_cut [4, 5] from 24 to 36 (fun v4 v5 wx => ∃ (rb : Nat) (r : Rn) (FJ2 : Nat → Prop), v4 = .pointer (some ⟨rb, 0, none⟩) ∧ v5 = .int .i64 er ∧ EpM B w wx b jb rb FJ FJ2 M ak lk ck rk ap rp.length cp rp (s.uss.drop s.k) ao s.op.length co s r)
  case first =>
    refine wp_region_held_drew (S := fun w' => w'.cell? ⟨b, 0, none⟩ = some (.pointer (some ⟨jb, 0, none⟩)) ∧ w'.cell? ⟨b, 6, none⟩ = some (.slice ao s.op.length co)) (by kernel_rfl) ?_ (fun hH => ?_)
    · exact ⟨e0, e6⟩
    refine tkH 0 ?_ ?_ ?_
    rotate_left
    · intro w h; try dsimp only at h
      obtain ⟨q0, q6⟩ := h; go_simp; all_goals with_reducible rfl
    try simp only [pt]
    refine tkH 1 ?_ ?_ ?_
    rotate_left
    · intro w h; try dsimp only at h
      obtain ⟨q0, q6⟩ := h; go_simp; all_goals with_reducible rfl
    try simp only [pt]
    refine tkH 2 ?_ ?_ ?_
    rotate_left
    · intro w h; try dsimp only at h
      obtain ⟨q0, q6⟩ := h; go_simp; all_goals with_reducible rfl
    try simp only [pt]
    refine tkH 3 ?_ ?_ ?_
    rotate_left
    · intro w h; try dsimp only at h
      obtain ⟨q0, q6⟩ := h; go_simp; all_goals with_reducible rfl
    try simp only [pt]
    refine tkH 4 ?_ ?_ ?_
    rotate_left
    · intro w h; try dsimp only at h
      obtain ⟨q0, q6⟩ := h; go_simp; all_goals with_reducible rfl
    try simp only [pt]
    refine tkH 5 ?_ ?_ ?_
    rotate_left
    · intro w h; try dsimp only at h
      obtain ⟨q0, q6⟩ := h; go_simp; all_goals with_reducible rfl
    try simp only [pt]
    refine tkH 6 ?_ ?_ ?_
    rotate_left
    · intro w h; try dsimp only at h
      obtain ⟨q0, q6⟩ := h; go_simp; all_goals with_reducible rfl
    try simp only [pt]
    refine tkH 7 ?_ ?_ ?_
    rotate_left
    · intro w h; try dsimp only at h
      obtain ⟨q0, q6⟩ := h; go_simp; all_goals with_reducible rfl
    try simp only [pt]
    refine wpAnyH_ready (rs := [8, 12]) (by kernel_rfl) (by simp) ?_
    refine rdH (fun K hK => ?_) ?_
    · go_simp
      have hbW : Below w.heap.size w (X).drew := HB0.out.drew
      have hqW := HQ.out.next hbW
      refine (dadd_any HN.out ao s.op.length co HSM.out (X).drew hqW.ou.is hqW.ou.hc hqW.ou.hn hqW.jx).mono ?_
      rintro e w2 ⟨r, FJ2, rfl, ha, hl, hnu⟩
      have hA2 := ep_a HQ.out hbW HS0.out HRB0.out ha hl hnu
      rw [HE.out]
      have y0 := hA2.q.c0
      have y6 := hA2.q.c6
      have HA2 := Lib.hid hA2
      clear hA2 ha hl hnu hbW hqW
      simp only [rv]
      go_wp2_with fail
      refine hK.out _ _ ?_ (fun hH => ?_)
      · exact ⟨y0, y6⟩
      clear hK K
      try simp only [pt]
      refine tkH 9 ?_ ?_ ?_
      rotate_left
      · intro w h; try dsimp only at h
        obtain ⟨q0, q6⟩ := h; go_simp; all_goals with_reducible rfl
      try simp only [pt]
      refine tkH 10 ?_ ?_ ?_
      rotate_left
      · intro w h; try dsimp only at h
        obtain ⟨q0, q6⟩ := h; go_simp; all_goals with_reducible rfl
      try simp only [pt]
      refine tkH 11 ?_ ?_ ?_
      rotate_left
      · intro w h; try dsimp only at h
        obtain ⟨q0, q6⟩ := h; go_simp; all_goals with_reducible rfl
      try simp only [pt]
      refine wpAnyH_ready (rs := [12]) (by kernel_rfl) (by simp) ?_
      refine rdH (fun K hK => ?_) ?_
      · have hq3 := HA2.out.q.next (Joins.below_alloc1 w2 (.cells #[.int .i64 0, .int .i64 0, .slice none 0 0] 35))
        have v0 := hq3.c0
        have v6 := hq3.c6
        have HM := Lib.hid (ep_m1 HA2.out)
        have u0 := HM.out.a.q.c0
        have u6 := HM.out.a.q.c6
        clear hq3
        go_simp
        refine hK.out _ _ ?_ (fun hH => ?_)
        · exact ⟨v0, v6⟩
        clear hK K
        try simp only [pt]
        refine wpAnyH_ready (rs := [13]) (by kernel_rfl) (by simp) ?_
        refine rdH (fun K hK => ?_) ?_
        · go_simp
          refine hK.out _ _ ?_ (fun hH => ?_)
          · exact ⟨u0, u6⟩
          clear hK K
          try simp only [pt]
          refine tkH 14 ?_ ?_ ?_
          rotate_left
          · intro w h; try dsimp only at h
            obtain ⟨q0, q6⟩ := h; go_simp; all_goals with_reducible rfl
          try simp only [pt]
          refine wpAnyH_done (by kernel_rfl) ?_ _
          clear u0 u6 v0 v6 y0 y6 e0 e6
          go_wp2_with fail
          go_meet
          case rel => exact ⟨_, r, FJ2, rfl, rfl, HM.out⟩
        exact AllReadyH.nil
      exact AllReadyH.nil
    refine rdH (fun K hK => ?_) ?_
    · have HB1 : Hid (Below w.heap.size w (X.alloc (.cells #[.int .i64 0, .int .i64 0, .slice none 0 0] 35))) := Lib.hid (Below.step (w1 := X) HX0.out (.cells #[.int .i64 0, .int .i64 0, .slice none 0 0] 35) (Below.refl _ _))
      have hq1 := HQ.out.next HB1.out
      have v0 := hq1.c0
      have v6 := hq1.c6
      have HRB1 : Hid (Rb (X.alloc (.cells #[.int .i64 0, .int .i64 0, .slice none 0 0] 35)) w.heap.size 0 0 none 0 0) := Lib.hid (Rb.alloc HXR.out (.cells #[.int .i64 0, .int .i64 0, .slice none 0 0] 35))
      have HRV1 : Hid (Rb (X.alloc (.cells #[.int .i64 0, .int .i64 0, .slice none 0 0] 35)) X.heap.size 0 0 none 0 0) := Lib.hid (Rb.new X 0 0 none 0 0)
      have HS1 : Hid (w.heap.size + 1 ≤ (X.alloc (.cells #[.int .i64 0, .int .i64 0, .slice none 0 0] 35)).heap.size) := Lib.hid (by have := HXS.out; simp; omega)
      clear hq1
      go_simp
      refine hK.out _ _ ?_ (fun hH => ?_)
      · exact ⟨v0, v6⟩
      clear hK K
      try simp only [pt]
      refine wpAnyH_ready (rs := [8]) (by kernel_rfl) (by simp) ?_
      refine rdH (fun K hK => ?_) ?_
      · go_simp
        have hbW : Below w.heap.size w (X.alloc (.cells #[.int .i64 0, .int .i64 0, .slice none 0 0] 35)).drew := HB1.out.drew
        have hqW := HQ.out.next hbW
        refine (dadd_any HN.out ao s.op.length co HSM.out (X.alloc (.cells #[.int .i64 0, .int .i64 0, .slice none 0 0] 35)).drew hqW.ou.is hqW.ou.hc hqW.ou.hn hqW.jx).mono ?_
        rintro e w2 ⟨r, FJ2, rfl, ha, hl, hnu⟩
        have hA2 := ep_a HQ.out hbW HS1.out HRB1.out ha hl hnu
        rw [HE.out]
        have y0 := hA2.q.c0
        have y6 := hA2.q.c6
        have HA2 := Lib.hid hA2
        have hrv2 : Rb w2 X.heap.size 0 0 none 0 0 := (hl.block _ HRV1.out.lt (by have := HXS.out; have := HJL.out; omega)).trans HRV1.out
        have HM := Lib.hid (ep_m2 HA2.out hrv2 (by have := HXS.out; omega) (fun x hx e => by
          have hxs := HXS.out
          have hlt := HLT.out
          rcases hx with hx | hx | hx
          · have := (HQ.out.mm x hx).1; omega
          · omega
          · rcases ha.new x hx with hy | hy
            · have := (HQ.out.jx.foot x hy).2; omega
            · simp at hy; omega))
        have x3 := hrv2.f0 0
        have x4 := hrv2.f0 1
        have x5 := hrv2.f0 2
        have x0 := hrv2.c0
        have x1 := hrv2.c1
        have x2 := hrv2.c2
        have u0 := HM.out.a.q.c0
        have u6 := HM.out.a.q.c6
        clear hrv2
        clear hA2 ha hl hnu hbW hqW
        simp only [rv]
        go_wp2_with fail
        refine hK.out _ _ ?_ (fun hH => ?_)
        · exact ⟨y0, y6⟩
        clear hK K
        try simp only [pt]
        refine tkH 9 ?_ ?_ ?_
        rotate_left
        · intro w h; try dsimp only at h
          obtain ⟨q0, q6⟩ := h; go_simp; all_goals with_reducible rfl
        try simp only [pt]
        refine tkH 10 ?_ ?_ ?_
        rotate_left
        · intro w h; try dsimp only at h
          obtain ⟨q0, q6⟩ := h; go_simp; all_goals with_reducible rfl
        try simp only [pt]
        refine tkH 11 ?_ ?_ ?_
        rotate_left
        · intro w h; try dsimp only at h
          obtain ⟨q0, q6⟩ := h; go_simp; all_goals with_reducible rfl
        try simp only [pt]
        refine wpAnyH_ready (rs := [13]) (by kernel_rfl) (by simp) ?_
        refine rdH (fun K hK => ?_) ?_
        · go_simp
          refine hK.out _ _ ?_ (fun hH => ?_)
          · exact ⟨u0, u6⟩
          clear hK K
          try simp only [pt]
          refine tkH 14 ?_ ?_ ?_
          rotate_left
          · intro w h; try dsimp only at h
            obtain ⟨q0, q6⟩ := h; go_simp; all_goals with_reducible rfl
          try simp only [pt]
          refine wpAnyH_done (by kernel_rfl) ?_ _
          clear u0 u6 v0 v6 y0 y6 e0 e6 x0 x1 x2 x3 x4 x5
          go_wp2_with fail
          go_meet
          case rel => exact ⟨_, r, FJ2, rfl, rfl, HM.out⟩
        exact AllReadyH.nil
      exact AllReadyH.nil
    exact AllReadyH.nil
  case rest =>
    obtain ⟨rb, ⟨ro, rn, ra, rl, rc, rus⟩, FJ2, rfl, rfl, hm⟩ := hcut
    have HM := Lib.hid hm
    clear hm e0 e6
    have g0' := HM.out.a.res.c0
    have g1' := HM.out.a.res.c1
    have g2' := HM.out.a.res.c2
    have f0 := HM.out.a.res.f0 0
    have f1 := HM.out.a.res.f0 1
    have f2 := HM.out.a.res.f0 2
    have h0' := ((HM.out.a.res.set0 0).set1 0).set2 none 0 0
    have k0' := h0'.c0
    have k1' := h0'.c1
    have k2' := h0'.c2
    clear h0'
    go_wp2
    refine bodyPost_ret (v := .tuple #[.agg #[.int .i64 0, .int .i64 0, .slice none 0 0], .int .i64 er]) (by simp [results, Tryd.results36, go_sem, k0', k1', k2']) rfl ⟨rfl, ep_err HQ.out HM.out HNE.out⟩
set_option maxHeartbeats 8000000 in
theorem dpush_ok (h0 : ¬ s.op.length = 0) (hm : ¬ s.most ≤ (s.uss.length : Int) - s.k) (hk : s.k ≤ s.uss.length) (hn : s.uss.length ≤ 1000) (hsm : Sm s.op) (he : addE s.o s.last s.uss s.op = 0) (hp : s.pushE = 0) (w : World) (h : Dk B w b D s) :
    Calls Tryd.prog 36 #[.pointer (some ⟨b, 0, none⟩)] w fun e w' => ∃ r, e = .returned (.tuple #[rv r, .int .i64 0]) ∧ (∃ D', DkW B w w' b D D' { s with uss := s.uss ++ [s.op], op := [] }) ∧ Ru w' r ∧ PushR s r := by
  have hA := Joins.below_alloc1 w (.cells #[.int .i64 0, .int .i64 0, .slice none 0 0] 35)
  have hr := Rb.new w 0 0 none 0 0
  have r0 := hr.f0 0
  have r1 := hr.f0 1
  have r2 := hr.f0 2
  obtain ⟨jb, FJ, M, ak, lk, ck, rk, ap, lp, cp, rp, ao, lo, co, hq, rfl⟩ := h
  obtain rfl : s.op.length = lo := hq.ou.is.size
  obtain rfl : rp.length = lp := hq.pr.is.size
  have c6 := (hq.next hA).c6
  have c5 := (hq.next hA).c5
  have c3 := (hq.next hA).c3
  have hpl := hq.po.len
  rw [List.length_drop] at hpl
  have q1 : decide (s.most ≤ (rp.length : Int)) = false := decide_eq_false (by omega)
  have q0 : ((s.op.length : Int) == 0) = false := beq_false_of_ne (by omega)
  have HA := Lib.hid hA
  have HQ := Lib.hid hq
  have HR := Lib.hid hr
  have HSM := Lib.hid hsm
  have HN := Lib.hid hn
  have HE := Lib.hid he
  have HPE := Lib.hid hp
  have HK := Lib.hid hk
  have HPL := Lib.hid hpl
  have HLT := Lib.hid hq.lt
  have HJL := Lib.hid (hq.jx.foot jb hq.jx.me).2
  have HSZ : Hid ((w.alloc (.cells #[.int .i64 0, .int .i64 0, .slice none 0 0] 35)).heap.size = w.heap.size + 1) := Lib.hid (by simp)
  clear hq hA hr h0 hm hsm hn he hk hpl hp
  go_enter Tryd.func36, Tryd.ntmps36
  go_wp2_with fail
  go_quiet (fail)
  revert nq
  intro n1
  go_upto_region 5 with fail
  generalize hX : (w.alloc (.cells #[.int .i64 0, .int .i64 0, .slice none 0 0] 35)).drewN n1 = X at *
  have HX0 : Hid (Below w.heap.size w X) := by
    have := belN HA.out n1
    refine Lib.hid ?_
    rw [← hX]
    exact this
  have HXR : Hid (Rb X w.heap.size 0 0 none 0 0) := by
    have := HR.out.drewN n1
    refine Lib.hid ?_
    rw [← hX]
    exact this
  have HXS : Hid (X.heap.size = w.heap.size + 1) := by
    refine Lib.hid ?_
    rw [← hX]
    exact HSZ.out
  have e0 : X.drew.cell? ⟨b, 0, none⟩ = some (.pointer (some ⟨jb, 0, none⟩)) := (HQ.out.next HX0.out).c0
  have e6 : X.drew.cell? ⟨b, 6, none⟩ = some (.slice ao s.op.length co) := (HQ.out.next HX0.out).c6
  have HB0 := HX0
  have HRB0 := HXR
  have HS0 : Hid (w.heap.size + 1 ≤ X.heap.size) := Lib.hid (by have := HXS.out; omega)
  clear HA HR HSZ c6 c5 c3
  clear hX
  go_wp2_with fail
  go_cut [4, 5] from 24 to 36 (fun v4 v5 wx => ∃ (rb : Nat) (r : Rn) (FJ2 : Nat → Prop), v4 = .pointer (some ⟨rb, 0, none⟩) ∧ v5 = .int .i64 0 ∧ EpM B w wx b jb rb FJ FJ2 M ak lk ck rk ap rp.length cp rp (s.uss.drop s.k) ao s.op.length co s r)
  case first =>
    refine wp_region_held_drew (S := fun w' => w'.cell? ⟨b, 0, none⟩ = some (.pointer (some ⟨jb, 0, none⟩)) ∧ w'.cell? ⟨b, 6, none⟩ = some (.slice ao s.op.length co)) (by kernel_rfl) ?_ (fun hH => ?_)
    · exact ⟨e0, e6⟩
    refine tkH 0 ?_ ?_ ?_
    rotate_left
    · intro w h; try dsimp only at h
      obtain ⟨q0, q6⟩ := h; go_simp; all_goals with_reducible rfl
    try simp only [pt]
    refine tkH 1 ?_ ?_ ?_
    rotate_left
    · intro w h; try dsimp only at h
      obtain ⟨q0, q6⟩ := h; go_simp; all_goals with_reducible rfl
    try simp only [pt]
    refine tkH 2 ?_ ?_ ?_
    rotate_left
    · intro w h; try dsimp only at h
      obtain ⟨q0, q6⟩ := h; go_simp; all_goals with_reducible rfl
    try simp only [pt]
    refine tkH 3 ?_ ?_ ?_
    rotate_left
    · intro w h; try dsimp only at h
      obtain ⟨q0, q6⟩ := h; go_simp; all_goals with_reducible rfl
    try simp only [pt]
    refine tkH 4 ?_ ?_ ?_
    rotate_left
    · intro w h; try dsimp only at h
      obtain ⟨q0, q6⟩ := h; go_simp; all_goals with_reducible rfl
    try simp only [pt]
    refine tkH 5 ?_ ?_ ?_
    rotate_left
    · intro w h; try dsimp only at h
      obtain ⟨q0, q6⟩ := h; go_simp; all_goals with_reducible rfl
    try simp only [pt]
    refine tkH 6 ?_ ?_ ?_
    rotate_left
    · intro w h; try dsimp only at h
      obtain ⟨q0, q6⟩ := h; go_simp; all_goals with_reducible rfl
    try simp only [pt]
    refine tkH 7 ?_ ?_ ?_
    rotate_left
    · intro w h; try dsimp only at h
      obtain ⟨q0, q6⟩ := h; go_simp; all_goals with_reducible rfl
    try simp only [pt]
    refine wpAnyH_ready (rs := [8, 12]) (by kernel_rfl) (by simp) ?_
    refine rdH (fun K hK => ?_) ?_
    · go_simp
      have hbW : Below w.heap.size w (X).drew := HB0.out.drew
      have hqW := HQ.out.next hbW
      refine (dadd_any HN.out ao s.op.length co HSM.out (X).drew hqW.ou.is hqW.ou.hc hqW.ou.hn hqW.jx).mono ?_
      rintro e w2 ⟨r, FJ2, rfl, ha, hl, hnu⟩
      have hA2 := ep_a HQ.out hbW HS0.out HRB0.out ha hl hnu
      rw [HE.out]
      have y0 := hA2.q.c0
      have y6 := hA2.q.c6
      have HA2 := Lib.hid hA2
      clear hA2 ha hl hnu hbW hqW
      simp only [rv]
      go_wp2_with fail
      refine hK.out _ _ ?_ (fun hH => ?_)
      · exact ⟨y0, y6⟩
      clear hK K
      try simp only [pt]
      refine tkH 9 ?_ ?_ ?_
      rotate_left
      · intro w h; try dsimp only at h
        obtain ⟨q0, q6⟩ := h; go_simp; all_goals with_reducible rfl
      try simp only [pt]
      refine tkH 10 ?_ ?_ ?_
      rotate_left
      · intro w h; try dsimp only at h
        obtain ⟨q0, q6⟩ := h; go_simp; all_goals with_reducible rfl
      try simp only [pt]
      refine tkH 11 ?_ ?_ ?_
      rotate_left
      · intro w h; try dsimp only at h
        obtain ⟨q0, q6⟩ := h; go_simp; all_goals with_reducible rfl
      try simp only [pt]
      refine wpAnyH_ready (rs := [12]) (by kernel_rfl) (by simp) ?_
      refine rdH (fun K hK => ?_) ?_
      · have hq3 := HA2.out.q.next (Joins.below_alloc1 w2 (.cells #[.int .i64 0, .int .i64 0, .slice none 0 0] 35))
        have v0 := hq3.c0
        have v6 := hq3.c6
        have HM := Lib.hid (ep_m1 HA2.out)
        have u0 := HM.out.a.q.c0
        have u6 := HM.out.a.q.c6
        clear hq3
        go_simp
        refine hK.out _ _ ?_ (fun hH => ?_)
        · exact ⟨v0, v6⟩
        clear hK K
        try simp only [pt]
        refine wpAnyH_ready (rs := [13]) (by kernel_rfl) (by simp) ?_
        refine rdH (fun K hK => ?_) ?_
        · go_simp
          refine hK.out _ _ ?_ (fun hH => ?_)
          · exact ⟨u0, u6⟩
          clear hK K
          try simp only [pt]
          refine tkH 14 ?_ ?_ ?_
          rotate_left
          · intro w h; try dsimp only at h
            obtain ⟨q0, q6⟩ := h; go_simp; all_goals with_reducible rfl
          try simp only [pt]
          refine wpAnyH_done (by kernel_rfl) ?_ _
          clear u0 u6 v0 v6 y0 y6 e0 e6
          go_wp2_with fail
          go_meet
          case rel => exact ⟨_, r, FJ2, rfl, rfl, HM.out⟩
        exact AllReadyH.nil
      exact AllReadyH.nil
    refine rdH (fun K hK => ?_) ?_
    · have HB1 : Hid (Below w.heap.size w (X.alloc (.cells #[.int .i64 0, .int .i64 0, .slice none 0 0] 35))) := Lib.hid (Below.step (w1 := X) HX0.out (.cells #[.int .i64 0, .int .i64 0, .slice none 0 0] 35) (Below.refl _ _))
      have hq1 := HQ.out.next HB1.out
      have v0 := hq1.c0
      have v6 := hq1.c6
      have HRB1 : Hid (Rb (X.alloc (.cells #[.int .i64 0, .int .i64 0, .slice none 0 0] 35)) w.heap.size 0 0 none 0 0) := Lib.hid (Rb.alloc HXR.out (.cells #[.int .i64 0, .int .i64 0, .slice none 0 0] 35))
      have HRV1 : Hid (Rb (X.alloc (.cells #[.int .i64 0, .int .i64 0, .slice none 0 0] 35)) X.heap.size 0 0 none 0 0) := Lib.hid (Rb.new X 0 0 none 0 0)
      have HS1 : Hid (w.heap.size + 1 ≤ (X.alloc (.cells #[.int .i64 0, .int .i64 0, .slice none 0 0] 35)).heap.size) := Lib.hid (by have := HXS.out; simp; omega)
      clear hq1
      go_simp
      refine hK.out _ _ ?_ (fun hH => ?_)
      · exact ⟨v0, v6⟩
      clear hK K
      try simp only [pt]
      refine wpAnyH_ready (rs := [8]) (by kernel_rfl) (by simp) ?_
      refine rdH (fun K hK => ?_) ?_
      · go_simp
        have hbW : Below w.heap.size w (X.alloc (.cells #[.int .i64 0, .int .i64 0, .slice none 0 0] 35)).drew := HB1.out.drew
        have hqW := HQ.out.next hbW
        refine (dadd_any HN.out ao s.op.length co HSM.out (X.alloc (.cells #[.int .i64 0, .int .i64 0, .slice none 0 0] 35)).drew hqW.ou.is hqW.ou.hc hqW.ou.hn hqW.jx).mono ?_
        rintro e w2 ⟨r, FJ2, rfl, ha, hl, hnu⟩
        have hA2 := ep_a HQ.out hbW HS1.out HRB1.out ha hl hnu
        rw [HE.out]
        have y0 := hA2.q.c0
        have y6 := hA2.q.c6
        have HA2 := Lib.hid hA2
        have hrv2 : Rb w2 X.heap.size 0 0 none 0 0 := (hl.block _ HRV1.out.lt (by have := HXS.out; have := HJL.out; omega)).trans HRV1.out
        have HM := Lib.hid (ep_m2 HA2.out hrv2 (by have := HXS.out; omega) (fun x hx e => by
          have hxs := HXS.out
          have hlt := HLT.out
          rcases hx with hx | hx | hx
          · have := (HQ.out.mm x hx).1; omega
          · omega
          · rcases ha.new x hx with hy | hy
            · have := (HQ.out.jx.foot x hy).2; omega
            · simp at hy; omega))
        have x3 := hrv2.f0 0
        have x4 := hrv2.f0 1
        have x5 := hrv2.f0 2
        have x0 := hrv2.c0
        have x1 := hrv2.c1
        have x2 := hrv2.c2
        have u0 := HM.out.a.q.c0
        have u6 := HM.out.a.q.c6
        clear hrv2
        clear hA2 ha hl hnu hbW hqW
        simp only [rv]
        go_wp2_with fail
        refine hK.out _ _ ?_ (fun hH => ?_)
        · exact ⟨y0, y6⟩
        clear hK K
        try simp only [pt]
        refine tkH 9 ?_ ?_ ?_
        rotate_left
        · intro w h; try dsimp only at h
          obtain ⟨q0, q6⟩ := h; go_simp; all_goals with_reducible rfl
        try simp only [pt]
        refine tkH 10 ?_ ?_ ?_
        rotate_left
        · intro w h; try dsimp only at h
          obtain ⟨q0, q6⟩ := h; go_simp; all_goals with_reducible rfl
        try simp only [pt]
        refine tkH 11 ?_ ?_ ?_
        rotate_left
        · intro w h; try dsimp only at h
          obtain ⟨q0, q6⟩ := h; go_simp; all_goals with_reducible rfl
        try simp only [pt]
        refine wpAnyH_ready (rs := [13]) (by kernel_rfl) (by simp) ?_
        refine rdH (fun K hK => ?_) ?_
        · go_simp
          refine hK.out _ _ ?_ (fun hH => ?_)
          · exact ⟨u0, u6⟩
          clear hK K
          try simp only [pt]
          refine tkH 14 ?_ ?_ ?_
          rotate_left
          · intro w h; try dsimp only at h
            obtain ⟨q0, q6⟩ := h; go_simp; all_goals with_reducible rfl
          try simp only [pt]
          refine wpAnyH_done (by kernel_rfl) ?_ _
          clear u0 u6 v0 v6 y0 y6 e0 e6 x0 x1 x2 x3 x4 x5
          go_wp2_with fail
          go_meet
          case rel => exact ⟨_, r, FJ2, rfl, rfl, HM.out⟩
        exact AllReadyH.nil
      exact AllReadyH.nil
    exact AllReadyH.nil
  case rest =>
    obtain ⟨rb, ⟨ro, rn, ra, rl, rc, rus⟩, FJ2, rfl, rfl, hm⟩ := hcut
    have HM := Lib.hid hm
    clear hm e0 e6
    have f6 := HM.out.a.q.f0 6
    have z6 := HM.out.a.q.c6
    have HNEB : Hid (rb ≠ b) := Lib.hid (by have := HLT.out; have := HM.out.lt; omega)
    have HNE0 : Hid (w.heap.size ≠ b) := Lib.hid (by have := HLT.out; omega)
    have HQ0 := Lib.hid (HM.out.a.q.setO (ao' := none) (lo' := 0) (co' := 0) (op' := []) ⟨isUs_nil _, Nat.le_refl _, fun _ => rfl, fun h => absurd h (Nat.lt_irrefl _)⟩)
    have HRRB := Lib.hid (HM.out.rr.setnew HNEB.out 6 (.slice none 0 0))
    have HRES := Lib.hid (HM.out.a.res.setnew HNE0.out 6 (.slice none 0 0))
    have HRU0 : Hid (Ru (wc.setCell ⟨b, 6, none⟩ (.slice none 0 0)) ⟨ro, rn, ra, rl, rc, rus⟩) := Lib.hid ⟨isUs_keep HM.out.a.ru.1 fun _ g off e => Below.heap_setCell _ _ _ _ (by have h1 := HM.out.a.nu g off e; have h2 := HLT.out; show g ≠ b; omega), HM.out.a.ru.2⟩
    have HLV0 : Hid (Lv w (wc.setCell ⟨b, 6, none⟩ (.slice none 0 0)) fun x => x = b ∨ x = jb) := Lib.hid (Lv.trans ⟨HM.out.a.lv.os, HM.out.a.lv.tape, HM.out.a.lv.output, HM.out.a.lv.size, fun x hx hf => HM.out.a.lv.block x hx fun e => hf (.inr e)⟩ (Lv.set (F := fun x => x = b ∨ x = jb) (.inl rfl) 6 (.slice none 0 0)))
    have HNU : Hid (∀ g off, ra = some ⟨g, off, none⟩ → w.heap.size + 1 ≤ g) := Lib.hid HM.out.a.nu
    have HNW := Lib.hid HM.out.a.nw
    have har := HM.out.a.ar
    have HRO : Hid (ro = s.o ∧ rn = ((s.uss.length + 1 : Nat) : Int) ∧ rus = s.op) := Lib.hid (by
      have h1 := har.o'
      have h2 := har.n'
      have h3 := har.us'
      rw [if_pos HE.out] at h1 h2 h3
      exact ⟨h1, h2, h3⟩)
    have HPR : Hid (PushR s ⟨ro, rn, ra, rl, rc, rus⟩) := Lib.hid ⟨by rw [if_pos HPE.out]; exact HRO.out.1, by rw [if_pos HPE.out]; exact HRO.out.2.1, by rw [if_pos HPE.out]; exact HRO.out.2.2⟩
    have HS9 : Hid (w.heap.size + 1 ≤ (wc.setCell ⟨b, 6, none⟩ (.slice none 0 0)).heap.size) := Lib.hid (by have := HM.out.a.res.lt; simp; omega)
    have hadd : addL s.o s.last s.uss s.op = s.uss ++ [s.op] := by unfold addL; rw [if_pos HE.out]
    rw [hadd] at HQ0
    go_upto_region 9 with fail
    generalize wc.setCell ⟨b, 6, none⟩ (.slice none 0 0) = w0 at *
    clear f6 z6 har hadd HM
    have HXP := Lib.hid HQ0.out.pr.is.at
    have HCN := Lib.hid (And.intro HQ0.out.pr.hc HQ0.out.pr.hn)
    have HPB : Hid (rp.length ≤ 1000) := Lib.hid (by have := HPL.out; have := HN.out; omega)
    have HW0 : Hid (Below w0.heap.size w0 w0.drew) := Lib.hid (Below.refl w0.heap.size w0).drew
    have HK7 : Hid (∀ W, Below w0.heap.size w0 W → W.cell? ⟨rb, 0, none⟩ = some (.int .i64 ro) ∧ W.cell? ⟨rb, 1, none⟩ = some (.int .i64 rn) ∧ W.cell? ⟨rb, 2, none⟩ = some (.slice ra rl rc)) := Lib.hid fun W hW => ⟨(HRRB.out.next hW).c0, (HRRB.out.next hW).c1, (HRRB.out.next hW).c2⟩
    have hk0 := HK7.out _ HW0.out
    have ck0 : w0.cell? ⟨b, 5, none⟩ = some (.slice ap rp.length cp) := HQ0.out.c5
    go_wp2_with fail
    refine wp_region_held_drew (S := fun w' => w'.cell? ⟨rb, 0, none⟩ = some (.int .i64 ro) ∧ w'.cell? ⟨rb, 1, none⟩ = some (.int .i64 rn) ∧ w'.cell? ⟨rb, 2, none⟩ = some (.slice ra rl rc)) (by kernel_rfl) ?_ (fun hH => ?_)
    · exact hk0
    refine tkH 0 ?_ ?_ ?_
    rotate_left
    · intro w h; try dsimp only at h
      obtain ⟨q0, q1, q2⟩ := h; go_simp; all_goals with_reducible rfl
    try simp only [pt]
    refine tkH 2 ?_ ?_ ?_
    rotate_left
    · intro w h; try dsimp only at h
      obtain ⟨q0, q1, q2⟩ := h; go_simp; all_goals with_reducible rfl
    try simp only [pt]
    refine tkH 3 ?_ ?_ ?_
    rotate_left
    · intro w h; try dsimp only at h
      obtain ⟨q0, q1, q2⟩ := h; go_simp; all_goals with_reducible rfl
    try simp only [pt]
    refine tkH 4 ?_ ?_ ?_
    rotate_left
    · intro w h; try dsimp only at h
      obtain ⟨q0, q1, q2⟩ := h; go_simp; all_goals with_reducible rfl
    try simp only [pt]
    refine tkH 7 ?_ ?_ ?_
    rotate_left
    · intro w h; try dsimp only at h
      obtain ⟨q0, q1, q2⟩ := h; go_simp; all_goals with_reducible rfl
    try simp only [pt]
    refine wpAnyH_ready (rs := [1, 5, 8]) (by kernel_rfl) (by simp) ?_
    refine rdH (fun K hK => ?_) ?_
    · go_simp
      have HW1 : Hid (Below w0.heap.size w0 (w0.drew.alloc (.cells #[] 35))) := Lib.hid (Below.step HW0.out (.cells #[] 35) (Below.refl _ _))
      have hk1 := HK7.out _ HW1.out
      have ck1 : (w0.alloc (.cells #[] 35)).cell? ⟨b, 5, none⟩ = some (.slice ap rp.length cp) := (HQ0.out.next HW1.out).c5
      have HROW : Hid (RowR w0.heap.size (w0.drew.alloc (.cells #[] 35)) (.slice (some ⟨w0.heap.size, 0, none⟩) 0 0) []) := Lib.hid (by
        have := RowR.lower (rowR_new w0.drew) (show w0.heap.size ≤ w0.drew.heap.size by simp)
        rw [show w0.drew.heap.size = w0.heap.size by simp] at this
        exact this)
      refine hK.out _ _ ?_ (fun hH => ?_)
      · exact hk1
      clear hK K
      try simp only [pt]
      refine wpAnyH_ready (rs := [5, 8]) (by kernel_rfl) (by simp) ?_
      refine rdH (fun K hK => ?_) ?_
      · go_simp
        refine hK.out _ _ ?_ (fun hH => ?_)
        · exact hk1
        clear hK K
        try simp only [pt]
        refine wpAnyH_ready (rs := [6, 8]) (by kernel_rfl) (by simp) ?_
        refine rdH (fun K hK => ?_) ?_
        · obtain ⟨a1, c1', w6, hrun, hrw6, hgr6, _⟩ := run_appR (w0.drew.alloc (.cells #[] 35)) 40 w0.heap.size _ [] HROW.out ap rp.length cp rp (rsAt_below HXP.out HW1.out) HCN.out.1 HCN.out.2 (by have := HPB.out; simp; omega) HW1.out.size
          simp only [List.length_nil, Nat.zero_add, List.nil_append] at hrun hrw6
          have HW2 := Lib.hid (belR HROW.out HW1.out hgr6 HW1.out.size)
          have hk2 := HK7.out _ HW2.out
          have HROW1 := Lib.hid hrw6
          have ck2 : w6.cell? ⟨b, 5, none⟩ = some (.slice ap rp.length cp) := (HQ0.out.next HW2.out).c5
          clear hrw6 hgr6
          refine step_append_run (by rfl) (.tmp 44) (.tmp 48) 40 rfl _ _ _ rfl rfl hrun ?_
          refine hK.out _ _ ?_ (fun hH => ?_)
          · exact hk2
          clear hK K
          try simp only [pt]
          refine wpAnyH_ready (rs := [8]) (by kernel_rfl) (by simp) ?_
          refine rdH (fun K hK => ?_) ?_
          · go_simp
            have HW3 : Hid (Below w0.heap.size w0 (w6.alloc (.cells #[.int .i64 ro, .int .i64 rn, .slice ra rl rc] 35))) := Lib.hid (Below.step HW2.out (.cells #[.int .i64 ro, .int .i64 rn, .slice ra rl rc] 35) (Below.refl _ _))
            have hk3 := HK7.out _ HW3.out
            have ck3 : (w6.alloc (.cells #[.int .i64 ro, .int .i64 rn, .slice ra rl rc] 35)).cell? ⟨b, 5, none⟩ = some (.slice ap rp.length cp) := (HQ0.out.next HW3.out).c5
            have HONE : Hid (RsAt (w6.alloc (.cells #[.int .i64 ro, .int .i64 rn, .slice ra rl rc] 35)) (some ⟨w6.heap.size, 0, none⟩) 1 [⟨ro, rn, ra, rl, rc, rus⟩]) := Lib.hid (by
              have := rsAt_one w6 ⟨ro, rn, ra, rl, rc, rus⟩
              exact this)
            have HROW1 := Lib.hid (HROW1.out.alloc (.cells #[.int .i64 ro, .int .i64 rn, .slice ra rl rc] 35))
            refine hK.out _ _ ?_ (fun hH => ?_)
            · exact hk3
            clear hK K
            try simp only [pt]
            refine wpAnyH_ready (rs := [9]) (by kernel_rfl) (by simp) ?_
            refine rdH (fun K hK => ?_) ?_
            · obtain ⟨a2, c2, w8, hrun9, hrw8, hgr8, _⟩ := run_appR (w6.alloc (.cells #[.int .i64 ro, .int .i64 rn, .slice ra rl rc] 35)) 40 w0.heap.size _ rp HROW1.out (some ⟨w6.heap.size, 0, none⟩) 1 1 [⟨ro, rn, ra, rl, rc, rus⟩] HONE.out (Nat.le_refl _) (fun e => by cases e) (by have := HPB.out; omega) HW3.out.size
              have HW8 := Lib.hid (belR HROW1.out HW3.out hgr8 HW3.out.size)
              have hk9 := HK7.out _ HW8.out
              have HROW2 := Lib.hid hrw8
              clear hrw8 hgr8
              refine step_append_run (by rfl) (.tmp 49) (.tmp 51) 40 rfl _ _ _ rfl rfl hrun9 ?_
              refine hK.out _ _ ?_ (fun hH => ?_)
              · exact hk9
              clear hK K
              try simp only [pt]
              refine tkH 10 ?_ ?_ ?_
              rotate_left
              · intro w h; try dsimp only at h
                obtain ⟨q0, q1, q2⟩ := h; go_simp; all_goals with_reducible rfl
              try simp only [pt]
              refine tkH 11 ?_ ?_ ?_
              rotate_left
              · intro w h; try dsimp only at h
                obtain ⟨q0, q1, q2⟩ := h; go_simp; all_goals with_reducible rfl
              try simp only [pt]
              refine wpAnyH_ready (rs := [12]) (by kernel_rfl) (by simp) ?_
              refine rdH (fun K hK => ?_) ?_
              · have hrb9 := (HRRB.out.next HW8.out).setnew HNEB.out 5 (.slice a2 (rp.length + 1) c2)
                have hs9 : (w8.setCell ⟨b, 5, none⟩ (.slice a2 (rp.length + 1) c2)).cell? ⟨rb, 0, none⟩ = some (.int .i64 ro) ∧ (w8.setCell ⟨b, 5, none⟩ (.slice a2 (rp.length + 1) c2)).cell? ⟨rb, 1, none⟩ = some (.int .i64 rn) ∧ (w8.setCell ⟨b, 5, none⟩ (.slice a2 (rp.length + 1) c2)).cell? ⟨rb, 2, none⟩ = some (.slice ra rl rc) := ⟨hrb9.c0, hrb9.c1, hrb9.c2⟩
                have gb := (HQ0.out.next HW8.out).f0 5
                have ck9 : w8.cell? ⟨b, 5, none⟩ = some (.slice ap rp.length cp) := (HQ0.out.next HW8.out).c5
                clear hrb9
                go_simp
                refine hK.out _ _ ?_ (fun hH => ?_)
                · exact hs9
                clear hK K
                try simp only [pt]
                refine wpAnyH_done (by kernel_rfl) ?_ _
                obtain ⟨d0', d1', d2'⟩ := hs9
                have hres9 := (HRES.out.next HW8.out).setnew HNE0.out 5 (.slice a2 (rp.length + 1) c2)
                have g0' := hres9.c0
                have g1' := hres9.c1
                have g2' := hres9.c2
                have f0 := hres9.f0 0
                have f1 := hres9.f0 1
                have f2 := hres9.f0 2
                have h0' := ((hres9.set0 ro).set1 rn).set2 ra rl rc
                have k0' := h0'.c0
                have k1' := h0'.c1
                have k2' := h0'.c2
                have HFIN := Lib.hid (ep_fin (r := ⟨ro, rn, ra, rl, rc, rus⟩) (x0 := .int .i64 ro) (x1 := .int .i64 rn) (x2 := .slice ra rl rc) HQ.out HQ0.out HS9.out HLV0.out HRU0.out HRO.out.1 HRO.out.2.1 HRO.out.2.2 HK.out HNU.out HNW.out HW8.out HROW2.out)
                clear hres9 h0' HK7 hrun hrun9 hk0 hk9
                go_wp2
                refine bodyPost_ret (v := .tuple #[.agg #[.int .i64 ro, .int .i64 rn, .slice ra rl rc], .int .i64 0]) (by simp [results, Tryd.results36, go_sem, k0', k1', k2']) rfl ?_
                exact ⟨⟨ro, rn, ra, rl, rc, rus⟩, rfl, HFIN.out.1, HFIN.out.2, HPR.out⟩
              exact AllReadyH.nil
            exact AllReadyH.nil
          exact AllReadyH.nil
        refine rdH (fun K hK => ?_) ?_
        · go_simp
          have HW2 : Hid (Below w0.heap.size w0 ((w0.drew.alloc (.cells #[] 35)).alloc (.cells #[.int .i64 ro, .int .i64 rn, .slice ra rl rc] 35))) := Lib.hid (Below.step HW1.out (.cells #[.int .i64 ro, .int .i64 rn, .slice ra rl rc] 35) (Below.refl _ _))
          have hk2 := HK7.out _ HW2.out
          have ck2 : ((w0.alloc (.cells #[] 35)).alloc (.cells #[.int .i64 ro, .int .i64 rn, .slice ra rl rc] 35)).cell? ⟨b, 5, none⟩ = some (.slice ap rp.length cp) := (HQ0.out.next HW2.out).c5
          have HONE : Hid (RsAt ((w0.drew.alloc (.cells #[] 35)).alloc (.cells #[.int .i64 ro, .int .i64 rn, .slice ra rl rc] 35)) (some ⟨w0.heap.size + 1, 0, none⟩) 1 [⟨ro, rn, ra, rl, rc, rus⟩]) := Lib.hid (by
            have := rsAt_one (w0.drew.alloc (.cells #[] 35)) ⟨ro, rn, ra, rl, rc, rus⟩
            rw [show (w0.drew.alloc (.cells #[] 35)).heap.size = w0.heap.size + 1 by simp] at this
            exact this)
          have HROW := Lib.hid (HROW.out.alloc (.cells #[.int .i64 ro, .int .i64 rn, .slice ra rl rc] 35))
          refine hK.out _ _ ?_ (fun hH => ?_)
          · exact hk2
          clear hK K
          try simp only [pt]
          refine wpAnyH_ready (rs := [6]) (by kernel_rfl) (by simp) ?_
          refine rdH (fun K hK => ?_) ?_
          · obtain ⟨a1, c1', w6, hrun, hrw6, hgr6, _⟩ := run_appR ((w0.drew.alloc (.cells #[] 35)).alloc (.cells #[.int .i64 ro, .int .i64 rn, .slice ra rl rc] 35)) 40 w0.heap.size _ [] HROW.out ap rp.length cp rp (rsAt_below HXP.out HW2.out) HCN.out.1 HCN.out.2 (by have := HPB.out; simp; omega) HW2.out.size
            simp only [List.length_nil, Nat.zero_add, List.nil_append] at hrun hrw6
            have HW3 := Lib.hid (belR HROW.out HW2.out hgr6 HW2.out.size)
            have hk3 := HK7.out _ HW3.out
            have HROW1 := Lib.hid hrw6
            have ck3 : w6.cell? ⟨b, 5, none⟩ = some (.slice ap rp.length cp) := (HQ0.out.next HW3.out).c5
            have HONE := Lib.hid (rsAt_keep HONE.out fun _ g off e => hgr6.block g (by cases e; first | (simp; done) | (simp; omega)) (by cases e; simp [Value.ownBlock]))
            clear hrw6 hgr6
            refine step_append_run (by rfl) (.tmp 44) (.tmp 48) 40 rfl _ _ _ rfl rfl hrun ?_
            refine hK.out _ _ ?_ (fun hH => ?_)
            · exact hk3
            clear hK K
            try simp only [pt]
            refine wpAnyH_ready (rs := [9]) (by kernel_rfl) (by simp) ?_
            refine rdH (fun K hK => ?_) ?_
            · obtain ⟨a2, c2, w8, hrun9, hrw8, hgr8, _⟩ := run_appR w6 40 w0.heap.size _ rp HROW1.out (some ⟨w0.heap.size + 1, 0, none⟩) 1 1 [⟨ro, rn, ra, rl, rc, rus⟩] HONE.out (Nat.le_refl _) (fun e => by cases e) (by have := HPB.out; omega) HW3.out.size
              have HW8 := Lib.hid (belR HROW1.out HW3.out hgr8 HW3.out.size)
              have hk9 := HK7.out _ HW8.out
              have HROW2 := Lib.hid hrw8
              clear hrw8 hgr8
              refine step_append_run (by rfl) (.tmp 49) (.tmp 51) 40 rfl _ _ _ rfl rfl hrun9 ?_
              refine hK.out _ _ ?_ (fun hH => ?_)
              · exact hk9
              clear hK K
              try simp only [pt]
              refine tkH 10 ?_ ?_ ?_
              rotate_left
              · intro w h; try dsimp only at h
                obtain ⟨q0, q1, q2⟩ := h; go_simp; all_goals with_reducible rfl
              try simp only [pt]
              refine tkH 11 ?_ ?_ ?_
              rotate_left
              · intro w h; try dsimp only at h
                obtain ⟨q0, q1, q2⟩ := h; go_simp; all_goals with_reducible rfl
              try simp only [pt]
              refine wpAnyH_ready (rs := [12]) (by kernel_rfl) (by simp) ?_
              refine rdH (fun K hK => ?_) ?_
              · have hrb9 := (HRRB.out.next HW8.out).setnew HNEB.out 5 (.slice a2 (rp.length + 1) c2)
                have hs9 : (w8.setCell ⟨b, 5, none⟩ (.slice a2 (rp.length + 1) c2)).cell? ⟨rb, 0, none⟩ = some (.int .i64 ro) ∧ (w8.setCell ⟨b, 5, none⟩ (.slice a2 (rp.length + 1) c2)).cell? ⟨rb, 1, none⟩ = some (.int .i64 rn) ∧ (w8.setCell ⟨b, 5, none⟩ (.slice a2 (rp.length + 1) c2)).cell? ⟨rb, 2, none⟩ = some (.slice ra rl rc) := ⟨hrb9.c0, hrb9.c1, hrb9.c2⟩
                have gb := (HQ0.out.next HW8.out).f0 5
                have ck9 : w8.cell? ⟨b, 5, none⟩ = some (.slice ap rp.length cp) := (HQ0.out.next HW8.out).c5
                clear hrb9
                go_simp
                refine hK.out _ _ ?_ (fun hH => ?_)
                · exact hs9
                clear hK K
                try simp only [pt]
                refine wpAnyH_done (by kernel_rfl) ?_ _
                obtain ⟨d0', d1', d2'⟩ := hs9
                have hres9 := (HRES.out.next HW8.out).setnew HNE0.out 5 (.slice a2 (rp.length + 1) c2)
                have g0' := hres9.c0
                have g1' := hres9.c1
                have g2' := hres9.c2
                have f0 := hres9.f0 0
                have f1 := hres9.f0 1
                have f2 := hres9.f0 2
                have h0' := ((hres9.set0 ro).set1 rn).set2 ra rl rc
                have k0' := h0'.c0
                have k1' := h0'.c1
                have k2' := h0'.c2
                have HFIN := Lib.hid (ep_fin (r := ⟨ro, rn, ra, rl, rc, rus⟩) (x0 := .int .i64 ro) (x1 := .int .i64 rn) (x2 := .slice ra rl rc) HQ.out HQ0.out HS9.out HLV0.out HRU0.out HRO.out.1 HRO.out.2.1 HRO.out.2.2 HK.out HNU.out HNW.out HW8.out HROW2.out)
                clear hres9 h0' HK7 hrun hrun9 hk0 hk9
                go_wp2
                refine bodyPost_ret (v := .tuple #[.agg #[.int .i64 ro, .int .i64 rn, .slice ra rl rc], .int .i64 0]) (by simp [results, Tryd.results36, go_sem, k0', k1', k2']) rfl ?_
                exact ⟨⟨ro, rn, ra, rl, rc, rus⟩, rfl, HFIN.out.1, HFIN.out.2, HPR.out⟩
              exact AllReadyH.nil
            exact AllReadyH.nil
          exact AllReadyH.nil
        exact AllReadyH.nil
      refine rdH (fun K hK => ?_) ?_
      · go_simp
        have HW2 : Hid (Below w0.heap.size w0 ((w0.drew.alloc (.cells #[] 35)).alloc (.cells #[.int .i64 ro, .int .i64 rn, .slice ra rl rc] 35))) := Lib.hid (Below.step HW1.out (.cells #[.int .i64 ro, .int .i64 rn, .slice ra rl rc] 35) (Below.refl _ _))
        have hk2 := HK7.out _ HW2.out
        have ck2 : ((w0.alloc (.cells #[] 35)).alloc (.cells #[.int .i64 ro, .int .i64 rn, .slice ra rl rc] 35)).cell? ⟨b, 5, none⟩ = some (.slice ap rp.length cp) := (HQ0.out.next HW2.out).c5
        have HONE : Hid (RsAt ((w0.drew.alloc (.cells #[] 35)).alloc (.cells #[.int .i64 ro, .int .i64 rn, .slice ra rl rc] 35)) (some ⟨w0.heap.size + 1, 0, none⟩) 1 [⟨ro, rn, ra, rl, rc, rus⟩]) := Lib.hid (by
          have := rsAt_one (w0.drew.alloc (.cells #[] 35)) ⟨ro, rn, ra, rl, rc, rus⟩
          rw [show (w0.drew.alloc (.cells #[] 35)).heap.size = w0.heap.size + 1 by simp] at this
          exact this)
        have HROW := Lib.hid (HROW.out.alloc (.cells #[.int .i64 ro, .int .i64 rn, .slice ra rl rc] 35))
        refine hK.out _ _ ?_ (fun hH => ?_)
        · exact hk2
        clear hK K
        try simp only [pt]
        refine wpAnyH_ready (rs := [5]) (by kernel_rfl) (by simp) ?_
        refine rdH (fun K hK => ?_) ?_
        · go_simp
          refine hK.out _ _ ?_ (fun hH => ?_)
          · exact hk2
          clear hK K
          try simp only [pt]
          refine wpAnyH_ready (rs := [6]) (by kernel_rfl) (by simp) ?_
          refine rdH (fun K hK => ?_) ?_
          · obtain ⟨a1, c1', w6, hrun, hrw6, hgr6, _⟩ := run_appR ((w0.drew.alloc (.cells #[] 35)).alloc (.cells #[.int .i64 ro, .int .i64 rn, .slice ra rl rc] 35)) 40 w0.heap.size _ [] HROW.out ap rp.length cp rp (rsAt_below HXP.out HW2.out) HCN.out.1 HCN.out.2 (by have := HPB.out; simp; omega) HW2.out.size
            simp only [List.length_nil, Nat.zero_add, List.nil_append] at hrun hrw6
            have HW3 := Lib.hid (belR HROW.out HW2.out hgr6 HW2.out.size)
            have hk3 := HK7.out _ HW3.out
            have HROW1 := Lib.hid hrw6
            have ck3 : w6.cell? ⟨b, 5, none⟩ = some (.slice ap rp.length cp) := (HQ0.out.next HW3.out).c5
            have HONE := Lib.hid (rsAt_keep HONE.out fun _ g off e => hgr6.block g (by cases e; first | (simp; done) | (simp; omega)) (by cases e; simp [Value.ownBlock]))
            clear hrw6 hgr6
            refine step_append_run (by rfl) (.tmp 44) (.tmp 48) 40 rfl _ _ _ rfl rfl hrun ?_
            refine hK.out _ _ ?_ (fun hH => ?_)
            · exact hk3
            clear hK K
            try simp only [pt]
            refine wpAnyH_ready (rs := [9]) (by kernel_rfl) (by simp) ?_
            refine rdH (fun K hK => ?_) ?_
            · obtain ⟨a2, c2, w8, hrun9, hrw8, hgr8, _⟩ := run_appR w6 40 w0.heap.size _ rp HROW1.out (some ⟨w0.heap.size + 1, 0, none⟩) 1 1 [⟨ro, rn, ra, rl, rc, rus⟩] HONE.out (Nat.le_refl _) (fun e => by cases e) (by have := HPB.out; omega) HW3.out.size
              have HW8 := Lib.hid (belR HROW1.out HW3.out hgr8 HW3.out.size)
              have hk9 := HK7.out _ HW8.out
              have HROW2 := Lib.hid hrw8
              clear hrw8 hgr8
              refine step_append_run (by rfl) (.tmp 49) (.tmp 51) 40 rfl _ _ _ rfl rfl hrun9 ?_
              refine hK.out _ _ ?_ (fun hH => ?_)
              · exact hk9
              clear hK K
              try simp only [pt]
              refine tkH 10 ?_ ?_ ?_
              rotate_left
              · intro w h; try dsimp only at h
                obtain ⟨q0, q1, q2⟩ := h; go_simp; all_goals with_reducible rfl
              try simp only [pt]
              refine tkH 11 ?_ ?_ ?_
              rotate_left
              · intro w h; try dsimp only at h
                obtain ⟨q0, q1, q2⟩ := h; go_simp; all_goals with_reducible rfl
              try simp only [pt]
              refine wpAnyH_ready (rs := [12]) (by kernel_rfl) (by simp) ?_
              refine rdH (fun K hK => ?_) ?_
              · have hrb9 := (HRRB.out.next HW8.out).setnew HNEB.out 5 (.slice a2 (rp.length + 1) c2)
                have hs9 : (w8.setCell ⟨b, 5, none⟩ (.slice a2 (rp.length + 1) c2)).cell? ⟨rb, 0, none⟩ = some (.int .i64 ro) ∧ (w8.setCell ⟨b, 5, none⟩ (.slice a2 (rp.length + 1) c2)).cell? ⟨rb, 1, none⟩ = some (.int .i64 rn) ∧ (w8.setCell ⟨b, 5, none⟩ (.slice a2 (rp.length + 1) c2)).cell? ⟨rb, 2, none⟩ = some (.slice ra rl rc) := ⟨hrb9.c0, hrb9.c1, hrb9.c2⟩
                have gb := (HQ0.out.next HW8.out).f0 5
                have ck9 : w8.cell? ⟨b, 5, none⟩ = some (.slice ap rp.length cp) := (HQ0.out.next HW8.out).c5
                clear hrb9
                go_simp
                refine hK.out _ _ ?_ (fun hH => ?_)
                · exact hs9
                clear hK K
                try simp only [pt]
                refine wpAnyH_done (by kernel_rfl) ?_ _
                obtain ⟨d0', d1', d2'⟩ := hs9
                have hres9 := (HRES.out.next HW8.out).setnew HNE0.out 5 (.slice a2 (rp.length + 1) c2)
                have g0' := hres9.c0
                have g1' := hres9.c1
                have g2' := hres9.c2
                have f0 := hres9.f0 0
                have f1 := hres9.f0 1
                have f2 := hres9.f0 2
                have h0' := ((hres9.set0 ro).set1 rn).set2 ra rl rc
                have k0' := h0'.c0
                have k1' := h0'.c1
                have k2' := h0'.c2
                have HFIN := Lib.hid (ep_fin (r := ⟨ro, rn, ra, rl, rc, rus⟩) (x0 := .int .i64 ro) (x1 := .int .i64 rn) (x2 := .slice ra rl rc) HQ.out HQ0.out HS9.out HLV0.out HRU0.out HRO.out.1 HRO.out.2.1 HRO.out.2.2 HK.out HNU.out HNW.out HW8.out HROW2.out)
                clear hres9 h0' HK7 hrun hrun9 hk0 hk9
                go_wp2
                refine bodyPost_ret (v := .tuple #[.agg #[.int .i64 ro, .int .i64 rn, .slice ra rl rc], .int .i64 0]) (by simp [results, Tryd.results36, go_sem, k0', k1', k2']) rfl ?_
                exact ⟨⟨ro, rn, ra, rl, rc, rus⟩, rfl, HFIN.out.1, HFIN.out.2, HPR.out⟩
              exact AllReadyH.nil
            exact AllReadyH.nil
          exact AllReadyH.nil
        exact AllReadyH.nil
      exact AllReadyH.nil
    refine rdH (fun K hK => ?_) ?_
    · go_simp
      refine hK.out _ _ ?_ (fun hH => ?_)
      · exact hk0
      clear hK K
      try simp only [pt]
      refine wpAnyH_ready (rs := [1, 8]) (by kernel_rfl) (by simp) ?_
      refine rdH (fun K hK => ?_) ?_
      · go_simp
        have HW1 : Hid (Below w0.heap.size w0 (w0.drew.alloc (.cells #[] 35))) := Lib.hid (Below.step HW0.out (.cells #[] 35) (Below.refl _ _))
        have hk1 := HK7.out _ HW1.out
        have ck1 : (w0.alloc (.cells #[] 35)).cell? ⟨b, 5, none⟩ = some (.slice ap rp.length cp) := (HQ0.out.next HW1.out).c5
        have HROW : Hid (RowR w0.heap.size (w0.drew.alloc (.cells #[] 35)) (.slice (some ⟨w0.heap.size, 0, none⟩) 0 0) []) := Lib.hid (by
          have := RowR.lower (rowR_new w0.drew) (show w0.heap.size ≤ w0.drew.heap.size by simp)
          rw [show w0.drew.heap.size = w0.heap.size by simp] at this
          exact this)
        refine hK.out _ _ ?_ (fun hH => ?_)
        · exact hk1
        clear hK K
        try simp only [pt]
        refine wpAnyH_ready (rs := [6, 8]) (by kernel_rfl) (by simp) ?_
        refine rdH (fun K hK => ?_) ?_
        · obtain ⟨a1, c1', w6, hrun, hrw6, hgr6, _⟩ := run_appR (w0.drew.alloc (.cells #[] 35)) 40 w0.heap.size _ [] HROW.out ap rp.length cp rp (rsAt_below HXP.out HW1.out) HCN.out.1 HCN.out.2 (by have := HPB.out; simp; omega) HW1.out.size
          simp only [List.length_nil, Nat.zero_add, List.nil_append] at hrun hrw6
          have HW2 := Lib.hid (belR HROW.out HW1.out hgr6 HW1.out.size)
          have hk2 := HK7.out _ HW2.out
          have HROW1 := Lib.hid hrw6
          have ck2 : w6.cell? ⟨b, 5, none⟩ = some (.slice ap rp.length cp) := (HQ0.out.next HW2.out).c5
          clear hrw6 hgr6
          refine step_append_run (by rfl) (.tmp 44) (.tmp 48) 40 rfl _ _ _ rfl rfl hrun ?_
          refine hK.out _ _ ?_ (fun hH => ?_)
          · exact hk2
          clear hK K
          try simp only [pt]
          refine wpAnyH_ready (rs := [8]) (by kernel_rfl) (by simp) ?_
          refine rdH (fun K hK => ?_) ?_
          · go_simp
            have HW3 : Hid (Below w0.heap.size w0 (w6.alloc (.cells #[.int .i64 ro, .int .i64 rn, .slice ra rl rc] 35))) := Lib.hid (Below.step HW2.out (.cells #[.int .i64 ro, .int .i64 rn, .slice ra rl rc] 35) (Below.refl _ _))
            have hk3 := HK7.out _ HW3.out
            have ck3 : (w6.alloc (.cells #[.int .i64 ro, .int .i64 rn, .slice ra rl rc] 35)).cell? ⟨b, 5, none⟩ = some (.slice ap rp.length cp) := (HQ0.out.next HW3.out).c5
            have HONE : Hid (RsAt (w6.alloc (.cells #[.int .i64 ro, .int .i64 rn, .slice ra rl rc] 35)) (some ⟨w6.heap.size, 0, none⟩) 1 [⟨ro, rn, ra, rl, rc, rus⟩]) := Lib.hid (by
              have := rsAt_one w6 ⟨ro, rn, ra, rl, rc, rus⟩
              exact this)
            have HROW1 := Lib.hid (HROW1.out.alloc (.cells #[.int .i64 ro, .int .i64 rn, .slice ra rl rc] 35))
            refine hK.out _ _ ?_ (fun hH => ?_)
            · exact hk3
            clear hK K
            try simp only [pt]
            refine wpAnyH_ready (rs := [9]) (by kernel_rfl) (by simp) ?_
            refine rdH (fun K hK => ?_) ?_
            · obtain ⟨a2, c2, w8, hrun9, hrw8, hgr8, _⟩ := run_appR (w6.alloc (.cells #[.int .i64 ro, .int .i64 rn, .slice ra rl rc] 35)) 40 w0.heap.size _ rp HROW1.out (some ⟨w6.heap.size, 0, none⟩) 1 1 [⟨ro, rn, ra, rl, rc, rus⟩] HONE.out (Nat.le_refl _) (fun e => by cases e) (by have := HPB.out; omega) HW3.out.size
              have HW8 := Lib.hid (belR HROW1.out HW3.out hgr8 HW3.out.size)
              have hk9 := HK7.out _ HW8.out
              have HROW2 := Lib.hid hrw8
              clear hrw8 hgr8
              refine step_append_run (by rfl) (.tmp 49) (.tmp 51) 40 rfl _ _ _ rfl rfl hrun9 ?_
              refine hK.out _ _ ?_ (fun hH => ?_)
              · exact hk9
              clear hK K
              try simp only [pt]
              refine tkH 10 ?_ ?_ ?_
              rotate_left
              · intro w h; try dsimp only at h
                obtain ⟨q0, q1, q2⟩ := h; go_simp; all_goals with_reducible rfl
              try simp only [pt]
              refine tkH 11 ?_ ?_ ?_
              rotate_left
              · intro w h; try dsimp only at h
                obtain ⟨q0, q1, q2⟩ := h; go_simp; all_goals with_reducible rfl
              try simp only [pt]
              refine wpAnyH_ready (rs := [12]) (by kernel_rfl) (by simp) ?_
              refine rdH (fun K hK => ?_) ?_
              · have hrb9 := (HRRB.out.next HW8.out).setnew HNEB.out 5 (.slice a2 (rp.length + 1) c2)
                have hs9 : (w8.setCell ⟨b, 5, none⟩ (.slice a2 (rp.length + 1) c2)).cell? ⟨rb, 0, none⟩ = some (.int .i64 ro) ∧ (w8.setCell ⟨b, 5, none⟩ (.slice a2 (rp.length + 1) c2)).cell? ⟨rb, 1, none⟩ = some (.int .i64 rn) ∧ (w8.setCell ⟨b, 5, none⟩ (.slice a2 (rp.length + 1) c2)).cell? ⟨rb, 2, none⟩ = some (.slice ra rl rc) := ⟨hrb9.c0, hrb9.c1, hrb9.c2⟩
                have gb := (HQ0.out.next HW8.out).f0 5
                have ck9 : w8.cell? ⟨b, 5, none⟩ = some (.slice ap rp.length cp) := (HQ0.out.next HW8.out).c5
                clear hrb9
                go_simp
                refine hK.out _ _ ?_ (fun hH => ?_)
                · exact hs9
                clear hK K
                try simp only [pt]
                refine wpAnyH_done (by kernel_rfl) ?_ _
                obtain ⟨d0', d1', d2'⟩ := hs9
                have hres9 := (HRES.out.next HW8.out).setnew HNE0.out 5 (.slice a2 (rp.length + 1) c2)
                have g0' := hres9.c0
                have g1' := hres9.c1
                have g2' := hres9.c2
                have f0 := hres9.f0 0
                have f1 := hres9.f0 1
                have f2 := hres9.f0 2
                have h0' := ((hres9.set0 ro).set1 rn).set2 ra rl rc
                have k0' := h0'.c0
                have k1' := h0'.c1
                have k2' := h0'.c2
                have HFIN := Lib.hid (ep_fin (r := ⟨ro, rn, ra, rl, rc, rus⟩) (x0 := .int .i64 ro) (x1 := .int .i64 rn) (x2 := .slice ra rl rc) HQ.out HQ0.out HS9.out HLV0.out HRU0.out HRO.out.1 HRO.out.2.1 HRO.out.2.2 HK.out HNU.out HNW.out HW8.out HROW2.out)
                clear hres9 h0' HK7 hrun hrun9 hk0 hk9
                go_wp2
                refine bodyPost_ret (v := .tuple #[.agg #[.int .i64 ro, .int .i64 rn, .slice ra rl rc], .int .i64 0]) (by simp [results, Tryd.results36, go_sem, k0', k1', k2']) rfl ?_
                exact ⟨⟨ro, rn, ra, rl, rc, rus⟩, rfl, HFIN.out.1, HFIN.out.2, HPR.out⟩
              exact AllReadyH.nil
            exact AllReadyH.nil
          exact AllReadyH.nil
        refine rdH (fun K hK => ?_) ?_
        · go_simp
          have HW2 : Hid (Below w0.heap.size w0 ((w0.drew.alloc (.cells #[] 35)).alloc (.cells #[.int .i64 ro, .int .i64 rn, .slice ra rl rc] 35))) := Lib.hid (Below.step HW1.out (.cells #[.int .i64 ro, .int .i64 rn, .slice ra rl rc] 35) (Below.refl _ _))
          have hk2 := HK7.out _ HW2.out
          have ck2 : ((w0.alloc (.cells #[] 35)).alloc (.cells #[.int .i64 ro, .int .i64 rn, .slice ra rl rc] 35)).cell? ⟨b, 5, none⟩ = some (.slice ap rp.length cp) := (HQ0.out.next HW2.out).c5
          have HONE : Hid (RsAt ((w0.drew.alloc (.cells #[] 35)).alloc (.cells #[.int .i64 ro, .int .i64 rn, .slice ra rl rc] 35)) (some ⟨w0.heap.size + 1, 0, none⟩) 1 [⟨ro, rn, ra, rl, rc, rus⟩]) := Lib.hid (by
            have := rsAt_one (w0.drew.alloc (.cells #[] 35)) ⟨ro, rn, ra, rl, rc, rus⟩
            rw [show (w0.drew.alloc (.cells #[] 35)).heap.size = w0.heap.size + 1 by simp] at this
            exact this)
          have HROW := Lib.hid (HROW.out.alloc (.cells #[.int .i64 ro, .int .i64 rn, .slice ra rl rc] 35))
          refine hK.out _ _ ?_ (fun hH => ?_)
          · exact hk2
          clear hK K
          try simp only [pt]
          refine wpAnyH_ready (rs := [6]) (by kernel_rfl) (by simp) ?_
          refine rdH (fun K hK => ?_) ?_
          · obtain ⟨a1, c1', w6, hrun, hrw6, hgr6, _⟩ := run_appR ((w0.drew.alloc (.cells #[] 35)).alloc (.cells #[.int .i64 ro, .int .i64 rn, .slice ra rl rc] 35)) 40 w0.heap.size _ [] HROW.out ap rp.length cp rp (rsAt_below HXP.out HW2.out) HCN.out.1 HCN.out.2 (by have := HPB.out; simp; omega) HW2.out.size
            simp only [List.length_nil, Nat.zero_add, List.nil_append] at hrun hrw6
            have HW3 := Lib.hid (belR HROW.out HW2.out hgr6 HW2.out.size)
            have hk3 := HK7.out _ HW3.out
            have HROW1 := Lib.hid hrw6
            have ck3 : w6.cell? ⟨b, 5, none⟩ = some (.slice ap rp.length cp) := (HQ0.out.next HW3.out).c5
            have HONE := Lib.hid (rsAt_keep HONE.out fun _ g off e => hgr6.block g (by cases e; first | (simp; done) | (simp; omega)) (by cases e; simp [Value.ownBlock]))
            clear hrw6 hgr6
            refine step_append_run (by rfl) (.tmp 44) (.tmp 48) 40 rfl _ _ _ rfl rfl hrun ?_
            refine hK.out _ _ ?_ (fun hH => ?_)
            · exact hk3
            clear hK K
            try simp only [pt]
            refine wpAnyH_ready (rs := [9]) (by kernel_rfl) (by simp) ?_
            refine rdH (fun K hK => ?_) ?_
            · obtain ⟨a2, c2, w8, hrun9, hrw8, hgr8, _⟩ := run_appR w6 40 w0.heap.size _ rp HROW1.out (some ⟨w0.heap.size + 1, 0, none⟩) 1 1 [⟨ro, rn, ra, rl, rc, rus⟩] HONE.out (Nat.le_refl _) (fun e => by cases e) (by have := HPB.out; omega) HW3.out.size
              have HW8 := Lib.hid (belR HROW1.out HW3.out hgr8 HW3.out.size)
              have hk9 := HK7.out _ HW8.out
              have HROW2 := Lib.hid hrw8
              clear hrw8 hgr8
              refine step_append_run (by rfl) (.tmp 49) (.tmp 51) 40 rfl _ _ _ rfl rfl hrun9 ?_
              refine hK.out _ _ ?_ (fun hH => ?_)
              · exact hk9
              clear hK K
              try simp only [pt]
              refine tkH 10 ?_ ?_ ?_
              rotate_left
              · intro w h; try dsimp only at h
                obtain ⟨q0, q1, q2⟩ := h; go_simp; all_goals with_reducible rfl
              try simp only [pt]
              refine tkH 11 ?_ ?_ ?_
              rotate_left
              · intro w h; try dsimp only at h
                obtain ⟨q0, q1, q2⟩ := h; go_simp; all_goals with_reducible rfl
              try simp only [pt]
              refine wpAnyH_ready (rs := [12]) (by kernel_rfl) (by simp) ?_
              refine rdH (fun K hK => ?_) ?_
              · have hrb9 := (HRRB.out.next HW8.out).setnew HNEB.out 5 (.slice a2 (rp.length + 1) c2)
                have hs9 : (w8.setCell ⟨b, 5, none⟩ (.slice a2 (rp.length + 1) c2)).cell? ⟨rb, 0, none⟩ = some (.int .i64 ro) ∧ (w8.setCell ⟨b, 5, none⟩ (.slice a2 (rp.length + 1) c2)).cell? ⟨rb, 1, none⟩ = some (.int .i64 rn) ∧ (w8.setCell ⟨b, 5, none⟩ (.slice a2 (rp.length + 1) c2)).cell? ⟨rb, 2, none⟩ = some (.slice ra rl rc) := ⟨hrb9.c0, hrb9.c1, hrb9.c2⟩
                have gb := (HQ0.out.next HW8.out).f0 5
                have ck9 : w8.cell? ⟨b, 5, none⟩ = some (.slice ap rp.length cp) := (HQ0.out.next HW8.out).c5
                clear hrb9
                go_simp
                refine hK.out _ _ ?_ (fun hH => ?_)
                · exact hs9
                clear hK K
                try simp only [pt]
                refine wpAnyH_done (by kernel_rfl) ?_ _
                obtain ⟨d0', d1', d2'⟩ := hs9
                have hres9 := (HRES.out.next HW8.out).setnew HNE0.out 5 (.slice a2 (rp.length + 1) c2)
                have g0' := hres9.c0
                have g1' := hres9.c1
                have g2' := hres9.c2
                have f0 := hres9.f0 0
                have f1 := hres9.f0 1
                have f2 := hres9.f0 2
                have h0' := ((hres9.set0 ro).set1 rn).set2 ra rl rc
                have k0' := h0'.c0
                have k1' := h0'.c1
                have k2' := h0'.c2
                have HFIN := Lib.hid (ep_fin (r := ⟨ro, rn, ra, rl, rc, rus⟩) (x0 := .int .i64 ro) (x1 := .int .i64 rn) (x2 := .slice ra rl rc) HQ.out HQ0.out HS9.out HLV0.out HRU0.out HRO.out.1 HRO.out.2.1 HRO.out.2.2 HK.out HNU.out HNW.out HW8.out HROW2.out)
                clear hres9 h0' HK7 hrun hrun9 hk0 hk9
                go_wp2
                refine bodyPost_ret (v := .tuple #[.agg #[.int .i64 ro, .int .i64 rn, .slice ra rl rc], .int .i64 0]) (by simp [results, Tryd.results36, go_sem, k0', k1', k2']) rfl ?_
                exact ⟨⟨ro, rn, ra, rl, rc, rus⟩, rfl, HFIN.out.1, HFIN.out.2, HPR.out⟩
              exact AllReadyH.nil
            exact AllReadyH.nil
          exact AllReadyH.nil
        exact AllReadyH.nil
      refine rdH (fun K hK => ?_) ?_
      · go_simp
        have HW1 : Hid (Below w0.heap.size w0 (w0.drew.alloc (.cells #[.int .i64 ro, .int .i64 rn, .slice ra rl rc] 35))) := Lib.hid (Below.step HW0.out (.cells #[.int .i64 ro, .int .i64 rn, .slice ra rl rc] 35) (Below.refl _ _))
        have hk1 := HK7.out _ HW1.out
        have ck1 : (w0.alloc (.cells #[.int .i64 ro, .int .i64 rn, .slice ra rl rc] 35)).cell? ⟨b, 5, none⟩ = some (.slice ap rp.length cp) := (HQ0.out.next HW1.out).c5
        have HONE : Hid (RsAt (w0.drew.alloc (.cells #[.int .i64 ro, .int .i64 rn, .slice ra rl rc] 35)) (some ⟨w0.heap.size, 0, none⟩) 1 [⟨ro, rn, ra, rl, rc, rus⟩]) := Lib.hid (by
          have := rsAt_one w0.drew ⟨ro, rn, ra, rl, rc, rus⟩
          rw [show w0.drew.heap.size = w0.heap.size by simp] at this
          exact this)
        refine hK.out _ _ ?_ (fun hH => ?_)
        · exact hk1
        clear hK K
        try simp only [pt]
        refine wpAnyH_ready (rs := [1]) (by kernel_rfl) (by simp) ?_
        refine rdH (fun K hK => ?_) ?_
        · go_simp
          have HW2 : Hid (Below w0.heap.size w0 ((w0.drew.alloc (.cells #[.int .i64 ro, .int .i64 rn, .slice ra rl rc] 35)).alloc (.cells #[] 35))) := Lib.hid (Below.step HW1.out (.cells #[] 35) (Below.refl _ _))
          have hk2 := HK7.out _ HW2.out
          have ck2 : ((w0.alloc (.cells #[.int .i64 ro, .int .i64 rn, .slice ra rl rc] 35)).alloc (.cells #[] 35)).cell? ⟨b, 5, none⟩ = some (.slice ap rp.length cp) := (HQ0.out.next HW2.out).c5
          have HROW : Hid (RowR w0.heap.size ((w0.drew.alloc (.cells #[.int .i64 ro, .int .i64 rn, .slice ra rl rc] 35)).alloc (.cells #[] 35)) (.slice (some ⟨w0.heap.size + 1, 0, none⟩) 0 0) []) := Lib.hid (by
            have := RowR.lower (rowR_new (w0.drew.alloc (.cells #[.int .i64 ro, .int .i64 rn, .slice ra rl rc] 35))) (show w0.heap.size ≤ (w0.drew.alloc (.cells #[.int .i64 ro, .int .i64 rn, .slice ra rl rc] 35)).heap.size by simp)
            rw [show (w0.drew.alloc (.cells #[.int .i64 ro, .int .i64 rn, .slice ra rl rc] 35)).heap.size = w0.heap.size + 1 by simp] at this
            exact this)
          have HONE := Lib.hid (rsAt_below (w' := ((w0.drew.alloc (.cells #[.int .i64 ro, .int .i64 rn, .slice ra rl rc] 35)).alloc (.cells #[] 35))) HONE.out (Joins.below_alloc1 _ _))
          refine hK.out _ _ ?_ (fun hH => ?_)
          · exact hk2
          clear hK K
          try simp only [pt]
          refine wpAnyH_ready (rs := [6]) (by kernel_rfl) (by simp) ?_
          refine rdH (fun K hK => ?_) ?_
          · obtain ⟨a1, c1', w6, hrun, hrw6, hgr6, _⟩ := run_appR ((w0.drew.alloc (.cells #[.int .i64 ro, .int .i64 rn, .slice ra rl rc] 35)).alloc (.cells #[] 35)) 40 w0.heap.size _ [] HROW.out ap rp.length cp rp (rsAt_below HXP.out HW2.out) HCN.out.1 HCN.out.2 (by have := HPB.out; simp; omega) HW2.out.size
            simp only [List.length_nil, Nat.zero_add, List.nil_append] at hrun hrw6
            have HW3 := Lib.hid (belR HROW.out HW2.out hgr6 HW2.out.size)
            have hk3 := HK7.out _ HW3.out
            have HROW1 := Lib.hid hrw6
            have ck3 : w6.cell? ⟨b, 5, none⟩ = some (.slice ap rp.length cp) := (HQ0.out.next HW3.out).c5
            have HONE := Lib.hid (rsAt_keep HONE.out fun _ g off e => hgr6.block g (by cases e; first | (simp; done) | (simp; omega)) (by cases e; simp [Value.ownBlock]))
            clear hrw6 hgr6
            refine step_append_run (by rfl) (.tmp 44) (.tmp 48) 40 rfl _ _ _ rfl rfl hrun ?_
            refine hK.out _ _ ?_ (fun hH => ?_)
            · exact hk3
            clear hK K
            try simp only [pt]
            refine wpAnyH_ready (rs := [9]) (by kernel_rfl) (by simp) ?_
            refine rdH (fun K hK => ?_) ?_
            · obtain ⟨a2, c2, w8, hrun9, hrw8, hgr8, _⟩ := run_appR w6 40 w0.heap.size _ rp HROW1.out (some ⟨w0.heap.size, 0, none⟩) 1 1 [⟨ro, rn, ra, rl, rc, rus⟩] HONE.out (Nat.le_refl _) (fun e => by cases e) (by have := HPB.out; omega) HW3.out.size
              have HW8 := Lib.hid (belR HROW1.out HW3.out hgr8 HW3.out.size)
              have hk9 := HK7.out _ HW8.out
              have HROW2 := Lib.hid hrw8
              clear hrw8 hgr8
              refine step_append_run (by rfl) (.tmp 49) (.tmp 51) 40 rfl _ _ _ rfl rfl hrun9 ?_
              refine hK.out _ _ ?_ (fun hH => ?_)
              · exact hk9
              clear hK K
              try simp only [pt]
              refine tkH 10 ?_ ?_ ?_
              rotate_left
              · intro w h; try dsimp only at h
                obtain ⟨q0, q1, q2⟩ := h; go_simp; all_goals with_reducible rfl
              try simp only [pt]
              refine tkH 11 ?_ ?_ ?_
              rotate_left
              · intro w h; try dsimp only at h
                obtain ⟨q0, q1, q2⟩ := h; go_simp; all_goals with_reducible rfl
              try simp only [pt]
              refine wpAnyH_ready (rs := [12]) (by kernel_rfl) (by simp) ?_
              refine rdH (fun K hK => ?_) ?_
              · have hrb9 := (HRRB.out.next HW8.out).setnew HNEB.out 5 (.slice a2 (rp.length + 1) c2)
                have hs9 : (w8.setCell ⟨b, 5, none⟩ (.slice a2 (rp.length + 1) c2)).cell? ⟨rb, 0, none⟩ = some (.int .i64 ro) ∧ (w8.setCell ⟨b, 5, none⟩ (.slice a2 (rp.length + 1) c2)).cell? ⟨rb, 1, none⟩ = some (.int .i64 rn) ∧ (w8.setCell ⟨b, 5, none⟩ (.slice a2 (rp.length + 1) c2)).cell? ⟨rb, 2, none⟩ = some (.slice ra rl rc) := ⟨hrb9.c0, hrb9.c1, hrb9.c2⟩
                have gb := (HQ0.out.next HW8.out).f0 5
                have ck9 : w8.cell? ⟨b, 5, none⟩ = some (.slice ap rp.length cp) := (HQ0.out.next HW8.out).c5
                clear hrb9
                go_simp
                refine hK.out _ _ ?_ (fun hH => ?_)
                · exact hs9
                clear hK K
                try simp only [pt]
                refine wpAnyH_done (by kernel_rfl) ?_ _
                obtain ⟨d0', d1', d2'⟩ := hs9
                have hres9 := (HRES.out.next HW8.out).setnew HNE0.out 5 (.slice a2 (rp.length + 1) c2)
                have g0' := hres9.c0
                have g1' := hres9.c1
                have g2' := hres9.c2
                have f0 := hres9.f0 0
                have f1 := hres9.f0 1
                have f2 := hres9.f0 2
                have h0' := ((hres9.set0 ro).set1 rn).set2 ra rl rc
                have k0' := h0'.c0
                have k1' := h0'.c1
                have k2' := h0'.c2
                have HFIN := Lib.hid (ep_fin (r := ⟨ro, rn, ra, rl, rc, rus⟩) (x0 := .int .i64 ro) (x1 := .int .i64 rn) (x2 := .slice ra rl rc) HQ.out HQ0.out HS9.out HLV0.out HRU0.out HRO.out.1 HRO.out.2.1 HRO.out.2.2 HK.out HNU.out HNW.out HW8.out HROW2.out)
                clear hres9 h0' HK7 hrun hrun9 hk0 hk9
                go_wp2
                refine bodyPost_ret (v := .tuple #[.agg #[.int .i64 ro, .int .i64 rn, .slice ra rl rc], .int .i64 0]) (by simp [results, Tryd.results36, go_sem, k0', k1', k2']) rfl ?_
                exact ⟨⟨ro, rn, ra, rl, rc, rus⟩, rfl, HFIN.out.1, HFIN.out.2, HPR.out⟩
              exact AllReadyH.nil
            exact AllReadyH.nil
          exact AllReadyH.nil
        exact AllReadyH.nil
      exact AllReadyH.nil
    refine rdH (fun K hK => ?_) ?_
    · go_simp
      have HW1 : Hid (Below w0.heap.size w0 (w0.drew.alloc (.cells #[.int .i64 ro, .int .i64 rn, .slice ra rl rc] 35))) := Lib.hid (Below.step HW0.out (.cells #[.int .i64 ro, .int .i64 rn, .slice ra rl rc] 35) (Below.refl _ _))
      have hk1 := HK7.out _ HW1.out
      have ck1 : (w0.alloc (.cells #[.int .i64 ro, .int .i64 rn, .slice ra rl rc] 35)).cell? ⟨b, 5, none⟩ = some (.slice ap rp.length cp) := (HQ0.out.next HW1.out).c5
      have HONE : Hid (RsAt (w0.drew.alloc (.cells #[.int .i64 ro, .int .i64 rn, .slice ra rl rc] 35)) (some ⟨w0.heap.size, 0, none⟩) 1 [⟨ro, rn, ra, rl, rc, rus⟩]) := Lib.hid (by
        have := rsAt_one w0.drew ⟨ro, rn, ra, rl, rc, rus⟩
        rw [show w0.drew.heap.size = w0.heap.size by simp] at this
        exact this)
      refine hK.out _ _ ?_ (fun hH => ?_)
      · exact hk1
      clear hK K
      try simp only [pt]
      refine wpAnyH_ready (rs := [1, 5]) (by kernel_rfl) (by simp) ?_
      refine rdH (fun K hK => ?_) ?_
      · go_simp
        have HW2 : Hid (Below w0.heap.size w0 ((w0.drew.alloc (.cells #[.int .i64 ro, .int .i64 rn, .slice ra rl rc] 35)).alloc (.cells #[] 35))) := Lib.hid (Below.step HW1.out (.cells #[] 35) (Below.refl _ _))
        have hk2 := HK7.out _ HW2.out
        have ck2 : ((w0.alloc (.cells #[.int .i64 ro, .int .i64 rn, .slice ra rl rc] 35)).alloc (.cells #[] 35)).cell? ⟨b, 5, none⟩ = some (.slice ap rp.length cp) := (HQ0.out.next HW2.out).c5
        have HROW : Hid (RowR w0.heap.size ((w0.drew.alloc (.cells #[.int .i64 ro, .int .i64 rn, .slice ra rl rc] 35)).alloc (.cells #[] 35)) (.slice (some ⟨w0.heap.size + 1, 0, none⟩) 0 0) []) := Lib.hid (by
          have := RowR.lower (rowR_new (w0.drew.alloc (.cells #[.int .i64 ro, .int .i64 rn, .slice ra rl rc] 35))) (show w0.heap.size ≤ (w0.drew.alloc (.cells #[.int .i64 ro, .int .i64 rn, .slice ra rl rc] 35)).heap.size by simp)
          rw [show (w0.drew.alloc (.cells #[.int .i64 ro, .int .i64 rn, .slice ra rl rc] 35)).heap.size = w0.heap.size + 1 by simp] at this
          exact this)
        have HONE := Lib.hid (rsAt_below (w' := ((w0.drew.alloc (.cells #[.int .i64 ro, .int .i64 rn, .slice ra rl rc] 35)).alloc (.cells #[] 35))) HONE.out (Joins.below_alloc1 _ _))
        refine hK.out _ _ ?_ (fun hH => ?_)
        · exact hk2
        clear hK K
        try simp only [pt]
        refine wpAnyH_ready (rs := [5]) (by kernel_rfl) (by simp) ?_
        refine rdH (fun K hK => ?_) ?_
        · go_simp
          refine hK.out _ _ ?_ (fun hH => ?_)
          · exact hk2
          clear hK K
          try simp only [pt]
          refine wpAnyH_ready (rs := [6]) (by kernel_rfl) (by simp) ?_
          refine rdH (fun K hK => ?_) ?_
          · obtain ⟨a1, c1', w6, hrun, hrw6, hgr6, _⟩ := run_appR ((w0.drew.alloc (.cells #[.int .i64 ro, .int .i64 rn, .slice ra rl rc] 35)).alloc (.cells #[] 35)) 40 w0.heap.size _ [] HROW.out ap rp.length cp rp (rsAt_below HXP.out HW2.out) HCN.out.1 HCN.out.2 (by have := HPB.out; simp; omega) HW2.out.size
            simp only [List.length_nil, Nat.zero_add, List.nil_append] at hrun hrw6
            have HW3 := Lib.hid (belR HROW.out HW2.out hgr6 HW2.out.size)
            have hk3 := HK7.out _ HW3.out
            have HROW1 := Lib.hid hrw6
            have ck3 : w6.cell? ⟨b, 5, none⟩ = some (.slice ap rp.length cp) := (HQ0.out.next HW3.out).c5
            have HONE := Lib.hid (rsAt_keep HONE.out fun _ g off e => hgr6.block g (by cases e; first | (simp; done) | (simp; omega)) (by cases e; simp [Value.ownBlock]))
            clear hrw6 hgr6
            refine step_append_run (by rfl) (.tmp 44) (.tmp 48) 40 rfl _ _ _ rfl rfl hrun ?_
            refine hK.out _ _ ?_ (fun hH => ?_)
            · exact hk3
            clear hK K
            try simp only [pt]
            refine wpAnyH_ready (rs := [9]) (by kernel_rfl) (by simp) ?_
            refine rdH (fun K hK => ?_) ?_
            · obtain ⟨a2, c2, w8, hrun9, hrw8, hgr8, _⟩ := run_appR w6 40 w0.heap.size _ rp HROW1.out (some ⟨w0.heap.size, 0, none⟩) 1 1 [⟨ro, rn, ra, rl, rc, rus⟩] HONE.out (Nat.le_refl _) (fun e => by cases e) (by have := HPB.out; omega) HW3.out.size
              have HW8 := Lib.hid (belR HROW1.out HW3.out hgr8 HW3.out.size)
              have hk9 := HK7.out _ HW8.out
              have HROW2 := Lib.hid hrw8
              clear hrw8 hgr8
              refine step_append_run (by rfl) (.tmp 49) (.tmp 51) 40 rfl _ _ _ rfl rfl hrun9 ?_
              refine hK.out _ _ ?_ (fun hH => ?_)
              · exact hk9
              clear hK K
              try simp only [pt]
              refine tkH 10 ?_ ?_ ?_
              rotate_left
              · intro w h; try dsimp only at h
                obtain ⟨q0, q1, q2⟩ := h; go_simp; all_goals with_reducible rfl
              try simp only [pt]
              refine tkH 11 ?_ ?_ ?_
              rotate_left
              · intro w h; try dsimp only at h
                obtain ⟨q0, q1, q2⟩ := h; go_simp; all_goals with_reducible rfl
              try simp only [pt]
              refine wpAnyH_ready (rs := [12]) (by kernel_rfl) (by simp) ?_
              refine rdH (fun K hK => ?_) ?_
              · have hrb9 := (HRRB.out.next HW8.out).setnew HNEB.out 5 (.slice a2 (rp.length + 1) c2)
                have hs9 : (w8.setCell ⟨b, 5, none⟩ (.slice a2 (rp.length + 1) c2)).cell? ⟨rb, 0, none⟩ = some (.int .i64 ro) ∧ (w8.setCell ⟨b, 5, none⟩ (.slice a2 (rp.length + 1) c2)).cell? ⟨rb, 1, none⟩ = some (.int .i64 rn) ∧ (w8.setCell ⟨b, 5, none⟩ (.slice a2 (rp.length + 1) c2)).cell? ⟨rb, 2, none⟩ = some (.slice ra rl rc) := ⟨hrb9.c0, hrb9.c1, hrb9.c2⟩
                have gb := (HQ0.out.next HW8.out).f0 5
                have ck9 : w8.cell? ⟨b, 5, none⟩ = some (.slice ap rp.length cp) := (HQ0.out.next HW8.out).c5
                clear hrb9
                go_simp
                refine hK.out _ _ ?_ (fun hH => ?_)
                · exact hs9
                clear hK K
                try simp only [pt]
                refine wpAnyH_done (by kernel_rfl) ?_ _
                obtain ⟨d0', d1', d2'⟩ := hs9
                have hres9 := (HRES.out.next HW8.out).setnew HNE0.out 5 (.slice a2 (rp.length + 1) c2)
                have g0' := hres9.c0
                have g1' := hres9.c1
                have g2' := hres9.c2
                have f0 := hres9.f0 0
                have f1 := hres9.f0 1
                have f2 := hres9.f0 2
                have h0' := ((hres9.set0 ro).set1 rn).set2 ra rl rc
                have k0' := h0'.c0
                have k1' := h0'.c1
                have k2' := h0'.c2
                have HFIN := Lib.hid (ep_fin (r := ⟨ro, rn, ra, rl, rc, rus⟩) (x0 := .int .i64 ro) (x1 := .int .i64 rn) (x2 := .slice ra rl rc) HQ.out HQ0.out HS9.out HLV0.out HRU0.out HRO.out.1 HRO.out.2.1 HRO.out.2.2 HK.out HNU.out HNW.out HW8.out HROW2.out)
                clear hres9 h0' HK7 hrun hrun9 hk0 hk9
                go_wp2
                refine bodyPost_ret (v := .tuple #[.agg #[.int .i64 ro, .int .i64 rn, .slice ra rl rc], .int .i64 0]) (by simp [results, Tryd.results36, go_sem, k0', k1', k2']) rfl ?_
                exact ⟨⟨ro, rn, ra, rl, rc, rus⟩, rfl, HFIN.out.1, HFIN.out.2, HPR.out⟩
              exact AllReadyH.nil
            exact AllReadyH.nil
          exact AllReadyH.nil
        exact AllReadyH.nil
      refine rdH (fun K hK => ?_) ?_
      · go_simp
        refine hK.out _ _ ?_ (fun hH => ?_)
        · exact hk1
        clear hK K
        try simp only [pt]
        refine wpAnyH_ready (rs := [1]) (by kernel_rfl) (by simp) ?_
        refine rdH (fun K hK => ?_) ?_
        · go_simp
          have HW2 : Hid (Below w0.heap.size w0 ((w0.drew.alloc (.cells #[.int .i64 ro, .int .i64 rn, .slice ra rl rc] 35)).alloc (.cells #[] 35))) := Lib.hid (Below.step HW1.out (.cells #[] 35) (Below.refl _ _))
          have hk2 := HK7.out _ HW2.out
          have ck2 : ((w0.alloc (.cells #[.int .i64 ro, .int .i64 rn, .slice ra rl rc] 35)).alloc (.cells #[] 35)).cell? ⟨b, 5, none⟩ = some (.slice ap rp.length cp) := (HQ0.out.next HW2.out).c5
          have HROW : Hid (RowR w0.heap.size ((w0.drew.alloc (.cells #[.int .i64 ro, .int .i64 rn, .slice ra rl rc] 35)).alloc (.cells #[] 35)) (.slice (some ⟨w0.heap.size + 1, 0, none⟩) 0 0) []) := Lib.hid (by
            have := RowR.lower (rowR_new (w0.drew.alloc (.cells #[.int .i64 ro, .int .i64 rn, .slice ra rl rc] 35))) (show w0.heap.size ≤ (w0.drew.alloc (.cells #[.int .i64 ro, .int .i64 rn, .slice ra rl rc] 35)).heap.size by simp)
            rw [show (w0.drew.alloc (.cells #[.int .i64 ro, .int .i64 rn, .slice ra rl rc] 35)).heap.size = w0.heap.size + 1 by simp] at this
            exact this)
          have HONE := Lib.hid (rsAt_below (w' := ((w0.drew.alloc (.cells #[.int .i64 ro, .int .i64 rn, .slice ra rl rc] 35)).alloc (.cells #[] 35))) HONE.out (Joins.below_alloc1 _ _))
          refine hK.out _ _ ?_ (fun hH => ?_)
          · exact hk2
          clear hK K
          try simp only [pt]
          refine wpAnyH_ready (rs := [6]) (by kernel_rfl) (by simp) ?_
          refine rdH (fun K hK => ?_) ?_
          · obtain ⟨a1, c1', w6, hrun, hrw6, hgr6, _⟩ := run_appR ((w0.drew.alloc (.cells #[.int .i64 ro, .int .i64 rn, .slice ra rl rc] 35)).alloc (.cells #[] 35)) 40 w0.heap.size _ [] HROW.out ap rp.length cp rp (rsAt_below HXP.out HW2.out) HCN.out.1 HCN.out.2 (by have := HPB.out; simp; omega) HW2.out.size
            simp only [List.length_nil, Nat.zero_add, List.nil_append] at hrun hrw6
            have HW3 := Lib.hid (belR HROW.out HW2.out hgr6 HW2.out.size)
            have hk3 := HK7.out _ HW3.out
            have HROW1 := Lib.hid hrw6
            have ck3 : w6.cell? ⟨b, 5, none⟩ = some (.slice ap rp.length cp) := (HQ0.out.next HW3.out).c5
            have HONE := Lib.hid (rsAt_keep HONE.out fun _ g off e => hgr6.block g (by cases e; first | (simp; done) | (simp; omega)) (by cases e; simp [Value.ownBlock]))
            clear hrw6 hgr6
            refine step_append_run (by rfl) (.tmp 44) (.tmp 48) 40 rfl _ _ _ rfl rfl hrun ?_
            refine hK.out _ _ ?_ (fun hH => ?_)
            · exact hk3
            clear hK K
            try simp only [pt]
            refine wpAnyH_ready (rs := [9]) (by kernel_rfl) (by simp) ?_
            refine rdH (fun K hK => ?_) ?_
            · obtain ⟨a2, c2, w8, hrun9, hrw8, hgr8, _⟩ := run_appR w6 40 w0.heap.size _ rp HROW1.out (some ⟨w0.heap.size, 0, none⟩) 1 1 [⟨ro, rn, ra, rl, rc, rus⟩] HONE.out (Nat.le_refl _) (fun e => by cases e) (by have := HPB.out; omega) HW3.out.size
              have HW8 := Lib.hid (belR HROW1.out HW3.out hgr8 HW3.out.size)
              have hk9 := HK7.out _ HW8.out
              have HROW2 := Lib.hid hrw8
              clear hrw8 hgr8
              refine step_append_run (by rfl) (.tmp 49) (.tmp 51) 40 rfl _ _ _ rfl rfl hrun9 ?_
              refine hK.out _ _ ?_ (fun hH => ?_)
              · exact hk9
              clear hK K
              try simp only [pt]
              refine tkH 10 ?_ ?_ ?_
              rotate_left
              · intro w h; try dsimp only at h
                obtain ⟨q0, q1, q2⟩ := h; go_simp; all_goals with_reducible rfl
              try simp only [pt]
              refine tkH 11 ?_ ?_ ?_
              rotate_left
              · intro w h; try dsimp only at h
                obtain ⟨q0, q1, q2⟩ := h; go_simp; all_goals with_reducible rfl
              try simp only [pt]
              refine wpAnyH_ready (rs := [12]) (by kernel_rfl) (by simp) ?_
              refine rdH (fun K hK => ?_) ?_
              · have hrb9 := (HRRB.out.next HW8.out).setnew HNEB.out 5 (.slice a2 (rp.length + 1) c2)
                have hs9 : (w8.setCell ⟨b, 5, none⟩ (.slice a2 (rp.length + 1) c2)).cell? ⟨rb, 0, none⟩ = some (.int .i64 ro) ∧ (w8.setCell ⟨b, 5, none⟩ (.slice a2 (rp.length + 1) c2)).cell? ⟨rb, 1, none⟩ = some (.int .i64 rn) ∧ (w8.setCell ⟨b, 5, none⟩ (.slice a2 (rp.length + 1) c2)).cell? ⟨rb, 2, none⟩ = some (.slice ra rl rc) := ⟨hrb9.c0, hrb9.c1, hrb9.c2⟩
                have gb := (HQ0.out.next HW8.out).f0 5
                have ck9 : w8.cell? ⟨b, 5, none⟩ = some (.slice ap rp.length cp) := (HQ0.out.next HW8.out).c5
                clear hrb9
                go_simp
                refine hK.out _ _ ?_ (fun hH => ?_)
                · exact hs9
                clear hK K
                try simp only [pt]
                refine wpAnyH_done (by kernel_rfl) ?_ _
                obtain ⟨d0', d1', d2'⟩ := hs9
                have hres9 := (HRES.out.next HW8.out).setnew HNE0.out 5 (.slice a2 (rp.length + 1) c2)
                have g0' := hres9.c0
                have g1' := hres9.c1
                have g2' := hres9.c2
                have f0 := hres9.f0 0
                have f1 := hres9.f0 1
                have f2 := hres9.f0 2
                have h0' := ((hres9.set0 ro).set1 rn).set2 ra rl rc
                have k0' := h0'.c0
                have k1' := h0'.c1
                have k2' := h0'.c2
                have HFIN := Lib.hid (ep_fin (r := ⟨ro, rn, ra, rl, rc, rus⟩) (x0 := .int .i64 ro) (x1 := .int .i64 rn) (x2 := .slice ra rl rc) HQ.out HQ0.out HS9.out HLV0.out HRU0.out HRO.out.1 HRO.out.2.1 HRO.out.2.2 HK.out HNU.out HNW.out HW8.out HROW2.out)
                clear hres9 h0' HK7 hrun hrun9 hk0 hk9
                go_wp2
                refine bodyPost_ret (v := .tuple #[.agg #[.int .i64 ro, .int .i64 rn, .slice ra rl rc], .int .i64 0]) (by simp [results, Tryd.results36, go_sem, k0', k1', k2']) rfl ?_
                exact ⟨⟨ro, rn, ra, rl, rc, rus⟩, rfl, HFIN.out.1, HFIN.out.2, HPR.out⟩
              exact AllReadyH.nil
            exact AllReadyH.nil
          exact AllReadyH.nil
        exact AllReadyH.nil
      exact AllReadyH.nil
    exact AllReadyH.nil
theorem dpush_any (hk : s.k ≤ s.uss.length) (hn : s.uss.length ≤ 1000) (hsm : Sm s.op) (w : World) (h : Dk B w b D s) :
    Calls Tryd.prog 36 #[.pointer (some ⟨b, 0, none⟩)] w fun e w' => ∃ r D', e = .returned (.tuple #[rv r, .int .i64 s.pushE]) ∧ DkW B w w' b D D' s.push ∧ Ru w' r ∧ PushR s r := by
  have no : ∀ (er : Int) (w' : World) D', s.pushE = er → ¬ er = 0 → DkW B w w' b D D' s → ∃ r D', (Ending.returned (.tuple #[rv rn0, .int .i64 er]) : Ending) = .returned (.tuple #[rv r, .int .i64 s.pushE]) ∧ DkW B w w' b D D' s.push ∧ Ru w' r ∧ PushR s r := fun er w' D' he h0 hp =>
    ⟨rn0, D', by rw [he], by rw [push_no (by rw [he]; exact h0)]; exact hp, ⟨isUs_nil _, Nat.le_refl _, fun _ => rfl⟩, pushR_no (by rw [he]; exact h0)⟩
  by_cases h0 : s.op.length = 0
  · have he : s.pushE = 11 := by show pushE _ _ _ _ _ _ = 11; unfold pushE; rw [if_pos h0]
    refine (dpush_none h0 w h).mono ?_
    rintro e w' ⟨rfl, hb⟩
    exact no 11 w' D he (by decide) (dkW_no h hb)
  by_cases hm : s.most ≤ (s.uss.length : Int) - s.k
  · have he : s.pushE = 7 := by show pushE _ _ _ _ _ _ = 7; unfold pushE; rw [if_neg h0, if_pos hm]
    refine (dpush_full h0 hm hk w h).mono ?_
    rintro e w' ⟨rfl, hb⟩
    exact no 7 w' D he (by decide) (dkW_no h hb)
  have he : s.pushE = addE s.o s.last s.uss s.op := by show pushE _ _ _ _ _ _ = _; unfold pushE; rw [if_neg h0, if_neg hm]
  by_cases hz : addE s.o s.last s.uss s.op = 0
  · have hp : s.pushE = 0 := he.trans hz
    refine (dpush_ok h0 hm hk hn hsm hz hp w h).mono ?_
    rintro e w' ⟨r, rfl, ⟨D', x1⟩, x2, x3⟩
    have e1 : s.push = { s with uss := s.uss ++ [s.op], op := [] } := by unfold Cs.push; rw [if_pos hp]
    exact ⟨r, D', by rw [hp], by rw [e1]; exact x1, x2, x3⟩
  · refine (dpush_err h0 hm hk hn hsm _ hz rfl w h).mono ?_
    rintro e w' ⟨rfl, D', hp⟩
    exact no _ w' D' he hz hp
end
end Go.Proofs.YtbbgibekplfacaaDoor
