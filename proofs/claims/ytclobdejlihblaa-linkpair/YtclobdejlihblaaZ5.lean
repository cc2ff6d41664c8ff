/- Ack, Clone, Pieces, Copy. -/
import Derived.Test.YtclobdejlihblaaZ4
namespace Go.Proofs.Ytclobdejlihblaa
open Go Go.RowKit
set_option maxRecDepth 20000
section
variable {B b : Nat} {v : Value} {win last : Int} {k : Nat} {ds : List ByteArray}
theorem sub_len (h : Ok win last k ds) : IntKind.i64.wrap (((k + ds.length : Nat) : Int) - (ds.length : Int)) = (k : Int) := by
  have := h.all
  have := h.l2
  rw [show ((k + ds.length : Nat) : Int) - (ds.length : Int) = (k : Int) by omega]
  exact i64_id (by omega) (by omega)
set_option maxHeartbeats 1000000 in
theorem ack_above (n : Int) (h1 : ((k + ds.length : Nat) : Int) < n) (w : World) (h : Sn B w b v win last k ds) :
    Calls Try.prog 33 #[.pointer (some ⟨b, 0, none⟩), .int .i64 n] w fun e w' => e = .returned (.int .i64 0) ∧ w'.heap = w.heap ∧ w'.os = w.os ∧ w'.tape = w.tape ∧ w'.output = w.output := by
  obtain ⟨a, c, hv, hlc, hn⟩ := h.row.is
  subst hv
  have hw := sub_len h.ok
  have c2 := h.c2
  have c3 := h.c3
  clear h hlc hn
  generalize ((k + ds.length : Nat) : Int) = S at *
  go_enter Try.func33, Try.ntmps33
  go_wp2_with fail
  go_quiet (fail)
  go_wp2
  go_ret
  exact ⟨rfl, rfl, rfl, rfl, rfl⟩
set_option maxHeartbeats 1000000 in
theorem ack_below (n : Int) (h1 : n ≤ ((k + ds.length : Nat) : Int)) (h2 : n ≤ (k : Int)) (w : World) (h : Sn B w b v win last k ds) :
    Calls Try.prog 33 #[.pointer (some ⟨b, 0, none⟩), .int .i64 n] w fun e w' => e = .returned (.int .i64 0) ∧ w'.heap = w.heap ∧ w'.os = w.os ∧ w'.tape = w.tape ∧ w'.output = w.output := by
  obtain ⟨a, c, hv, hlc, hn⟩ := h.row.is
  subst hv
  have hw := sub_len h.ok
  have c2 := h.c2
  have c3 := h.c3
  have k1 : ¬ ((k + ds.length : Nat) : Int) < n := by omega
  clear h hlc hn h1
  generalize ((k + ds.length : Nat) : Int) = S at *
  generalize (k : Int) = K at *
  go_enter Try.func33, Try.ntmps33
  go_wp2_with fail
  go_quiet (fail)
  go_wp2
  go_ret
  exact ⟨rfl, rfl, rfl, rfl, rfl⟩
theorem Fr.later {w w1 w2 : World} {r : Option Nat} (h : Fr w1 w2 b r) (e : w1.heap = w.heap) (e1 : w1.os = w.os) (e2 : w1.tape = w.tape) (e3 : w1.output = w.output) : Fr w w2 b r := (Fr.asit e e1 e2 e3).trans h
theorem Nw.later {w w1 : World} {v' : Value} (h : Nw w1 v v') (e : w1.heap = w.heap) : Nw w v v' := fun j hj => by rw [← e]; exact h j hj
set_option maxHeartbeats 1000000 in
theorem ack_yes (m : Nat) (h0 : 0 < m) (hm : m ≤ ds.length) (n : Int) (hn : n = (k : Int) + (m : Int)) (w : World) (h : Sn B w b v win last k ds) :
    Calls Try.prog 33 #[.pointer (some ⟨b, 0, none⟩), .int .i64 n] w fun e w' => e = .returned (.int .i64 (m : Int)) ∧ ∃ v', Sn B w' b v' win last (k + m) (ds.drop m) ∧ Fr w w' b v.ownBlock ∧ Nw w v v' := by
  obtain ⟨a, c, hv, hlc, hnn⟩ := h.row.is
  subst hv
  have hw := sub_len h.ok
  have c2 := h.c2
  have c3 := h.c3
  have k1 : ¬ ((k + ds.length : Nat) : Int) < n := by omega
  have k2 : ¬ n ≤ (k : Int) := by omega
  have hw2 : IntKind.i64.wrap (n - (k : Int)) = (m : Int) := by
    have := h.ok.l2
    have := h.ok.all
    rw [show n - (k : Int) = (m : Int) by omega]
    exact i64_id (by omega) (by omega)
  have H := Lib.hid h
  have HC := fun w h => Lib.hid (cut_any (B := B) (b := b) (v := .slice a ds.length c) (win := win) (last := last) (k := k) (ds := ds) m h0 hm w h)
  clear h hlc hnn hn h0 hm
  generalize ((k + ds.length : Nat) : Int) = S at c2 hw k1
  generalize (k : Int) = K at hw hw2 k2
  go_enter Try.func33, Try.ntmps33
  go_wp2_with fail
  go_quiet (fail)
  go_wp2_with fail
  refine (HC (w.drewN nq) (H.out.asit rfl)).out.mono ?_
  rintro e w1 ⟨rfl, v', hs, hf, hnw⟩
  have HS := Lib.hid hs
  have HF := Lib.hid (hf.later (w := w) rfl rfl rfl rfl)
  have HN := Lib.hid (hnw.later (w := w) rfl)
  clear hs hf hnw c2 c3
  go_wp2
  go_ret
  exact ⟨rfl, v', HS.out, HF.out, HN.out⟩
theorem ack_any (n : Int) (w : World) (h : Sn B w b v win last k ds) :
    Calls Try.prog 33 #[.pointer (some ⟨b, 0, none⟩), .int .i64 n] w fun e w' => e = .returned (.int .i64 (ackM k ds.length n : Int)) ∧ ∃ v', Sn B w' b v' win last (k + ackM k ds.length n) (ds.drop (ackM k ds.length n)) ∧ Fr w w' b v.ownBlock ∧ Nw w v v' := by
  unfold ackM
  by_cases h1 : ((k + ds.length : Nat) : Int) < n
  · simp only [if_pos (show ((k + ds.length : Nat) : Int) < n ∨ n ≤ (k : Int) from .inl h1)]
    refine (ack_above n h1 w h).mono ?_
    rintro e w1 ⟨rfl, e1, e2, e3, e4⟩
    exact ⟨rfl, v, h.asit e1, Fr.asit e1 e2 e3 e4, Nw.refl _ _⟩
  by_cases h2 : n ≤ (k : Int)
  · simp only [if_pos (show ((k + ds.length : Nat) : Int) < n ∨ n ≤ (k : Int) from .inr h2)]
    refine (ack_below n (by omega) h2 w h).mono ?_
    rintro e w1 ⟨rfl, e1, e2, e3, e4⟩
    exact ⟨rfl, v, h.asit e1, Fr.asit e1 e2 e3 e4, Nw.refl _ _⟩
  simp only [if_neg (show ¬ (((k + ds.length : Nat) : Int) < n ∨ n ≤ (k : Int)) by omega)]
  exact ack_yes _ (by omega) (by omega) n (by omega) w h
theorem wpList_append_run {ops : Array Oper} {rest : List Oper} {o : Oper} {a : Act} {Q : Exit → Act → World → Prop} {w w' : World} (hgd : o.guard = none) (s x : Operand) (t : TypeId)
    (ho : o.op = .call { callee := .builtin .append, args := #[s, x], argTypes := #[t, t] }) (vs vx v' : Value) (hs : a.eval s = vs) (hx : a.eval x = vx) (hrun : (Builtin.append_ #[t, t] o.type #[vs, vx]).run Try.prog w = .ok v' w')
    (h : wpList Try.prog ops Q rest (a.put o.dst v') w') : wpList Try.prog ops Q (o :: rest) a w := by
  refine wpList_plain hgd fun K hK => ?_
  unfold Oper.wp execOp
  simp only [ho, resolve, invoke, builtin, Sem.run_bind, Sem.run_pure, Result.andThen_ok, List.map_toArray, List.map_cons, List.map_nil, hs, hx, hrun]
  exact hK _ _ h
/-- slices.Clone of pieces. -/
theorem clonep_nil (w : World) : Calls Try.prog 47 #[.slice none 0 0] w fun e w' => e = .returned (.slice none 0 0) ∧ w' = w := by
  have he := fun w => Lib.run_eql_slice_nil (P := Try.prog) w 79 84 none 0 0 0 0 Try.underlying79
  go_enter Try.func47, Try.ntmps47
  go_wp2
  go_ret
  exact ⟨rfl, rfl⟩
set_option maxHeartbeats 1000000 in
theorem clonep_some (g off c : Nat) (hl : ds.length ≤ 1000) (w : World) (h : PR B w (.slice (some ⟨g, off, none⟩) ds.length c) k ds) : Calls Try.prog 47 #[.slice (some ⟨g, off, none⟩) ds.length c] w fun e w' => ∃ a' c', e = .returned (.slice a' ds.length c') ∧ RowP w.heap.size w' (.slice a' ds.length c') k ds ∧ Below w.heap.size w w' := by
  obtain ⟨a', c', w', hrun, hrow, hbel⟩ := run_cloneP w 79 B _ c k ds h hl
  have HR := Lib.hid hrow
  have HB := Lib.hid hbel
  clear h hrow hbel hl
  generalize ds.length = L at *
  have he := fun w => Lib.run_eql_slice_nil (P := Try.prog) w 79 84 (some ⟨g, off, none⟩) L c 0 0 Try.underlying79
  go_enter Try.func47, Try.ntmps47
  have HRUN := Lib.hid hrun
  clear hrun
  go_wp2_with (at_builtin; refine wpList_append_run rfl (.tmp 5) (.tmp 6) 79 rfl _ _ _ rfl rfl HRUN.out ?_)
  go_ret
  exact ⟨a', c', rfl, HR.out, HB.out⟩
theorem clonep_any (hl : ds.length ≤ 1000) (a : Option Addr) (c : Nat) (w : World) (h : PR B w (.slice a ds.length c) k ds) : Calls Try.prog 47 #[.slice a ds.length c] w fun e w' => ∃ a' c', e = .returned (.slice a' ds.length c') ∧ RowP w.heap.size w' (.slice a' ds.length c') k ds ∧ Below w.heap.size w w' := by
  rcases h with ⟨e, rfl⟩ | ⟨g, off, cap, cur, e, r⟩
  · cases e
    refine (clonep_nil w).mono ?_
    rintro e w1 ⟨rfl, rfl⟩
    exact ⟨none, 0, rfl, World.ownsRow_nil _ _ _ _, Below.refl _ _⟩
  · cases e
    exact clonep_some g off c hl w (.inr ⟨g, off, c, cur, rfl, r⟩)
end
end Go.Proofs.Ytclobdejlihblaa
