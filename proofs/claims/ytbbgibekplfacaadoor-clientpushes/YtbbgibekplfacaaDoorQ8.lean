/- The document's Add. -/
import Derived.Test.YtbbgibekplfacaaDoorRH
import Derived.Test.YtbbgibekplfacaaDoorI6
import Derived.Deep.CutRange
namespace Go.Proofs.YtbbgibekplfacaaDoor
open Go Go.RowKit
set_option maxRecDepth 20000
theorem RowU.lower {B B' : Nat} {w : World} {v : Value} {l : List Up} (h : RowU B w v l) (hB : B' ≤ B) : RowU B' w v l := by
  refine ⟨h.1, ?_⟩
  rcases h.2 with h' | ⟨g, cap, cur, rfl, hb, r⟩
  · exact .inl h'
  · exact .inr ⟨g, cap, cur, rfl, Nat.le_trans hB hb, r⟩
theorem RowR.lower {B B' : Nat} {w : World} {v : Value} {l : List Rn} (h : RowR B w v l) (hB : B' ≤ B) : RowR B' w v l := by
  refine ⟨h.1, ?_⟩
  rcases h.2 with h' | ⟨g, cap, cur, rfl, hb, r⟩
  · exact .inl h'
  · exact .inr ⟨g, cap, cur, rfl, Nat.le_trans hB hb, r⟩
theorem RowU.typ {B : Nat} {w : World} {v : Value} {l : List Up} (h : RowU B w v l) (j : Nat) (hj : v.ownBlock = some j) : B ≤ j ∧ ∃ cur, w.heap[j]? = some (.cells cur 32 (0, 0)) := by
  rcases h.2 with ⟨rfl, _⟩ | ⟨g, cap, cur, rfl, hb, hh, _⟩
  · cases hj
  · simp only [Value.ownBlock, Option.some.injEq] at hj
    subst hj
    exact ⟨hb, cur, hh⟩
theorem RowU.same {B : Nat} {w w1 : World} {v : Value} {l : List Up} (h : RowU B w v l) (hg : ∀ j, v.ownBlock = some j → w1.heap[j]? = w.heap[j]?) : RowU B w1 v l := by
  refine ⟨h.1, ?_⟩
  rcases h.2 with h' | ⟨g, cap, cur, rfl, hb, hh, r⟩
  · exact .inl h'
  · exact .inr ⟨g, cap, cur, rfl, hb, (hg g rfl).trans hh, r⟩
theorem RowU.set3 {B k : Nat} {w : World} {v : Value} {l : List Up} {o n : Int} {a : Option Addr} {l' c : Nat} (h : RowU B w v l) (hr : Rb w k o n a l' c) (x0 x1 x2 : Value) : RowU B (((w.setCell ⟨k, 0, none⟩ x0).setCell ⟨k, 1, none⟩ x1).setCell ⟨k, 2, none⟩ x2) v l :=
  h.same fun j hj => by
    obtain ⟨_, cur, hc⟩ := h.typ j hj
    have hne : j ≠ k := two_types hc hr (by decide)
    rw [Below.heap_setCell _ _ _ _ hne, Below.heap_setCell _ _ _ _ hne, Below.heap_setCell _ _ _ _ hne]
section
variable {T : TypeId} {B b : Nat} {w w1 w2 w3 W : World} {v : Value} {S : Nat → Prop} {F : Nat → Prop} {o last : Int} {rs : List Rn} {uss : List (List Up)}
theorem isUs_asit {w' : World} {a : Option Addr} {len : Nat} {us : List Up} (h : IsUs w a len us) (e : w'.heap = w.heap) : IsUs w' a len us := isUs_same h fun _ _ _ => by rw [e]
/-- append([]api.Update{}, l...), within Add. -/
theorem d3_app {a : Option Addr} {len cap q : Nat} {us : List Up} (ty : TypeId) (hu : IsUs w a len us) (hb : Below w.heap.size w W) (hrow : RowU w.heap.size W (.slice (some ⟨q, 0, none⟩) 0 0) []) (hc : len ≤ cap) (hn : a = none → cap = 0) (hl : len ≤ 1000) :
    ∃ a' c' w4, (Builtin.append_ #[33, 33] ty #[.slice (some ⟨q, 0, none⟩) 0 0, .slice a len cap]).run Tryd.prog W = .ok (.slice a' len c') w4 ∧ Hid (RowU w.heap.size w4 (.slice a' len c') us) ∧ Hid (Below w.heap.size w w4) ∧ Hid (∀ k, k < W.heap.size → k ≠ q → w4.heap[k]? = W.heap[k]?) ∧ Hid (W.heap.size ≤ w4.heap.size) := by
  have hu' := isUs_below hu hb
  obtain ⟨a', c', w4, r1, r2, r3, r4⟩ := run_appU W ty w.heap.size _ [] hrow a len cap us hu' hc hn (by simp only [List.length_nil]; omega) hb.size
  simp only [List.length_nil, Nat.zero_add, List.nil_append] at r1 r2 r4
  exact ⟨a', c', w4, r1, r2, belU hrow hb r3 hb.size, fun k hk hne => r3.block k hk (fun e => hne (by simp only [Value.ownBlock, Option.some.injEq] at e; exact e)), r3.size⟩
theorem rb_kept {w4 : World} {k : Nat} {o n : Int} {a : Option Addr} {l c q : Nat} (h : Rb W k o n a l c) (hk : ∀ k, k < W.heap.size → k ≠ q → w4.heap[k]? = W.heap[k]?) (hq : k ≠ q) : Rb w4 k o n a l c := (hk k h.lt hq).trans h
/-- append([]api.Round{}, j.L...), within Add. -/
theorem d7_app0 {ax : Option Addr} {c q : Nat} (ty : TypeId) (h : Jn T B w2 b (.slice ax rs.length c) S o last rs) (hb : Below w2.heap.size w2 W) (hrow : RowR w2.heap.size W (.slice (some ⟨q, 0, none⟩) 0 0) []) (hn : rs.length ≤ 1000) :
    ∃ a1 c1 w5, (Builtin.append_ #[40, 40] ty #[.slice (some ⟨q, 0, none⟩) 0 0, .slice ax rs.length c]).run Tryd.prog W = .ok (.slice a1 rs.length c1) w5 ∧ Hid (RowR w2.heap.size w5 (.slice a1 rs.length c1) rs) ∧ Hid (Below w2.heap.size w2 w5) ∧ Hid (∀ k, k < W.heap.size → k ≠ q → w5.heap[k]? = W.heap[k]?) := by
  obtain ⟨a', c', e, hx, hc, hn'⟩ := (h.next hb).is
  cases e
  obtain ⟨a1, c1, w5, r1, r2, r3, r4⟩ := run_appR W ty w2.heap.size _ [] hrow ax rs.length c rs hx.at hc hn' (by simp only [List.length_nil]; omega) hb.size
  simp only [List.length_nil, Nat.zero_add, List.nil_append] at r1 r2 r4
  exact ⟨a1, c1, w5, r1, r2, belR hrow hb r3 hb.size, fun k hk hne => r3.block k hk (fun e => hne (by simp only [Value.ownBlock, Option.some.injEq] at e; exact e))⟩
theorem rsOne_kept {w5 : World} {k q : Nat} {r : Rn} (h : RsAt W (some ⟨k, 0, none⟩) 1 [r]) (hk : ∀ k, k < W.heap.size → k ≠ q → w5.heap[k]? = W.heap[k]?) (hq : k ≠ q) : RsAt w5 (some ⟨k, 0, none⟩) 1 [r] := by
  refine ⟨rfl, fun h0 => ?_⟩
  obtain ⟨b, off, e, hf⟩ := h.lies h0
  cases e
  have hl := hf.lt (by simp)
  have hh : ∀ i, w5.cell? ⟨k, i, none⟩ = W.cell? ⟨k, i, none⟩ := fun i => World.cell?_of_block (hk k hl hq)
  exact ⟨k, 0, rfl, three fun i hi => ⟨(hh _).trans (hf.o i hi), (hh _).trans (hf.n i hi), (hh _).trans (hf.u i hi)⟩⟩
theorem d7_app1 {a1 : Option Addr} {c1 k : Nat} (ty : TypeId) {r : Rn} (hb : Below w2.heap.size w2 W) (hrow : RowR w2.heap.size W (.slice a1 rs.length c1) rs) (hr : RsAt W (some ⟨k, 0, none⟩) 1 [r]) (hn : rs.length ≤ 1000) :
    ∃ a2 c2 w6, (Builtin.append_ #[40, 40] ty #[.slice a1 rs.length c1, .slice (some ⟨k, 0, none⟩) 1 1]).run Tryd.prog W = .ok (.slice a2 (rs.length + 1) c2) w6 ∧ Hid (RowR w2.heap.size w6 (.slice a2 (rs.length + 1) c2) (rs ++ [r])) ∧ Hid (Below w2.heap.size w2 w6) := by
  obtain ⟨a2, c2, w6, r1, r2, r3, _⟩ := run_appR W ty w2.heap.size _ rs hrow (some ⟨k, 0, none⟩) 1 1 [r] hr (Nat.le_refl _) (fun e => by cases e) (by omega) hb.size
  exact ⟨a2, c2, w6, r1, r2, belR hrow hb r3 hb.size⟩
/-- How it stands when the document's Add returns: w2 ahead of the row's copy, w6 behind the second append. -/
theorem d_done {w6 : World} {ax a' a2 : Option Addr} {c c' c2 : Nat} {us : List Up} {N : Int} {x0 x1 x2 : Value} (h : Jn T B w b (.slice ax rs.length c) S o last rs) (ho : Of o 0 uss rs) (hs : ∀ us ∈ uss, Sm us) (hsm : Sm us) (hT : T ≠ 35) (hU : T ≠ 32)
    (hA : Below w.heap.size w w2) (hlt : w.heap.size < w2.heap.size) (hz : ∃ cur, w2.heap[w.heap.size]? = some (.cells cur 35 (0, 0))) (hru : RowU w.heap.size w2 (.slice a' us.length c') us) (hN : N = ((uss.length + 1 : Nat) : Int))
    (hb6 : Below w2.heap.size w2 w6) (hrow : RowR w2.heap.size w6 (.slice a2 (rs.length + 1) c2) (rs ++ [⟨o, N, a', us.length, c', us⟩])) :
    ∃ F', Jx T B ((((w6.setCell ⟨b, 2, none⟩ (.slice a2 (rs.length + 1) c2)).setCell ⟨w.heap.size, 0, none⟩ x0).setCell ⟨w.heap.size, 1, none⟩ x1).setCell ⟨w.heap.size, 2, none⟩ x2) b F' o last (uss ++ [us]) ∧ Lv w ((((w6.setCell ⟨b, 2, none⟩ (.slice a2 (rs.length + 1) c2)).setCell ⟨w.heap.size, 0, none⟩ x0).setCell ⟨w.heap.size, 1, none⟩ x1).setCell ⟨w.heap.size, 2, none⟩ x2) (fun k => k = b) ∧ (∀ k, F' k → Jf b (.slice ax rs.length c) S k ∨ w.heap.size ≤ k) ∧
      Ru ((((w6.setCell ⟨b, 2, none⟩ (.slice a2 (rs.length + 1) c2)).setCell ⟨w.heap.size, 0, none⟩ x0).setCell ⟨w.heap.size, 1, none⟩ x1).setCell ⟨w.heap.size, 2, none⟩ x2) ⟨o, N, a', us.length, c', us⟩ ∧ ∀ g off, a' = some ⟨g, off, none⟩ → w.heap.size ≤ g := by
  have h6 := (h.next hA).next hb6
  have s6 := hb6.size
  have sA := hA.size
  have hbl := h.lt
  have hru6 : RowU w.heap.size w6 (.slice a' us.length c') us := hru.below hb6
  have hru6' := hru6.isU rfl
  have b6 := h6.blk
  have hBl : B ≤ w.heap.size := Nat.le_trans h.lo (Nat.le_of_lt hbl)
  have hne : (Value.slice a2 (rs.length + 1) c2).ownBlock ≠ some b := fun e => by
    obtain ⟨_, cur, hc⟩ := hrow.typ b e
    exact two_types b6 hc hT rfl
  have hSb := h6.bS hU
  have hub : (Value.slice a' us.length c').ownBlock ≠ some b := fun e => by
    obtain ⟨_, cur, hc⟩ := hru6.typ b e
    exact two_types b6 hc hU rfl
  have hown : ∀ g off, a' = some ⟨g, off, none⟩ → (Value.slice a' us.length c').ownBlock = some g := fun g off e => by
    subst e
    rcases hru6.2 with ⟨e, _⟩ | ⟨g', cap, cur, e, _⟩
    · cases e
    · cases e
      rfl
  have hj : Jn T B (w6.setCell ⟨b, 2, none⟩ (.slice a2 (rs.length + 1) c2)) b (.slice a2 (rs.length + 1) c2) (fun k => S k ∨ (Value.slice a' us.length c').ownBlock = some k) o last (rs ++ [⟨o, N, a', us.length, c', us⟩]) := by
    refine ⟨h.lo, by simp [World.setCell, Array.getElem?_modify, b6], (hrow.lower (by omega)).same fun j hj => Below.heap_setCell _ _ _ _ (fun e => hne (by rw [hj, e])), fun x hx => ?_, fun k hk => ?_⟩
    · rcases List.mem_append.1 hx with hx | hx
      · obtain ⟨y1, y2⟩ := h6.each x hx
        refine ⟨⟨isUs_same y1.1 fun j off e => ?_, y1.2⟩, fun j off e => .inl (y2 j off e)⟩
        have hj := y2 j off e
        rw [Below.heap_setCell _ _ _ _ (fun e => hSb (by have e' : j = b := e; rw [← e']; exact hj))]
      · rw [List.mem_singleton.1 hx]
        refine ⟨⟨isUs_same hru6'.1 fun j off e => ?_, hru6'.2⟩, fun j off e => .inr (hown j off e)⟩
        rw [Below.heap_setCell _ _ _ _ (fun e' => hub (by rw [hown j off e, e']))]
    · rcases hk with hk | hk
      · obtain ⟨y1, cur, y2⟩ := h6.own k hk
        refine ⟨y1, cur, ?_⟩
        rw [Below.heap_setCell _ _ _ _ (fun e => hSb (by have e' : k = b := e; rw [← e']; exact hk))]
        exact y2
      · obtain ⟨y1, cur, y2⟩ := hru6.typ k hk
        refine ⟨by omega, cur, ?_⟩
        rw [Below.heap_setCell _ _ _ _ (fun e => hub (by rw [hk, e]))]
        exact y2
  have hft : ∀ k, Jf b (.slice a2 (rs.length + 1) c2) (fun k => S k ∨ (Value.slice a' us.length c').ownBlock = some k) k → Jf b (.slice ax rs.length c) S k ∨ w.heap.size ≤ k := fun k hk => by
    rcases hk with hk | hk | hk | hk
    · exact .inl (.inl hk)
    · exact .inr (by have := (hrow.typ k hk).1; omega)
    · exact .inl (.inr (.inr hk))
    · exact .inr (hru.typ k hk).1
  have hne0 : ¬ Jf b (.slice a2 (rs.length + 1) c2) (fun k => S k ∨ (Value.slice a' us.length c').ownBlock = some k) w.heap.size := fun hk => by
    rcases hk with hk | hk | hk | hk
    · omega
    · have := (hrow.typ _ hk).1; omega
    · have := (h.foot _ (.inr (.inr hk))).2; omega
    · obtain ⟨_, cur, hc⟩ := hru.typ _ hk
      obtain ⟨cur', hc'⟩ := hz
      exact two_types hc hc' (by decide) rfl
  have hl : Lv w (w6.setCell ⟨b, 2, none⟩ (.slice a2 (rs.length + 1) c2)) (fun k => k = b) := ((Lv.ofBelow hA _).trans (Lv.ofBelow hb6 _)).trans (Lv.set (F := fun k => k = b) rfl _ _)
  have hfin : ∀ k, k ≠ w.heap.size → ((((w6.setCell ⟨b, 2, none⟩ (.slice a2 (rs.length + 1) c2)).setCell ⟨w.heap.size, 0, none⟩ x0).setCell ⟨w.heap.size, 1, none⟩ x1).setCell ⟨w.heap.size, 2, none⟩ x2).heap[k]? = (w6.setCell ⟨b, 2, none⟩ (.slice a2 (rs.length + 1) c2)).heap[k]? := fun k hk => by
    rw [Below.heap_setCell _ _ _ _ hk, Below.heap_setCell _ _ _ _ hk, Below.heap_setCell _ _ _ _ hk]
  have hjf := hj.keep (w' := (((w6.setCell ⟨b, 2, none⟩ (.slice a2 (rs.length + 1) c2)).setCell ⟨w.heap.size, 0, none⟩ x0).setCell ⟨w.heap.size, 1, none⟩ x1).setCell ⟨w.heap.size, 2, none⟩ x2) fun k hk => hfin k (fun e => hne0 (e ▸ hk))
  refine ⟨_, ⟨_, _, _, hjf, ho.snoc ⟨o, N, a', us.length, c', us⟩ rfl (by rw [hN, Nat.zero_add]), fun x hx => ?_, rfl⟩, ?_, hft, (hjf.each _ (List.mem_append.2 (.inr (List.mem_singleton.2 rfl)))).1, fun g off e => (hru.typ g (by rw [e]; rfl)).1⟩
  · rcases List.mem_append.1 hx with hx | hx
    · exact hs x hx
    · rw [List.mem_singleton.1 hx]; exact hsm
  · exact ⟨hl.os, hl.tape, hl.output, by simpa using hl.size, fun k hk hF => (hfin k (by omega)).trans (hl.block k hk hF)⟩
end
section
variable {B b : Nat} {F : Nat → Prop} {o last : Int} {uss : List (List Up)}
set_option maxHeartbeats 2000000 in
theorem dadd_full (hl : last ≤ (uss.length : Int)) (a : Option Addr) (len cap : Nat) (w : World) (h : Jx 64 B w b F o last uss) :
    Calls Tryd.prog 57 #[.pointer (some ⟨b, 0, none⟩), .slice a len cap] w fun e w' => e = .returned (.tuple #[rv rn0, .int .i64 8]) ∧ Below w.heap.size w w' := by
  obtain ⟨v, S, rs, hj, ho, hs, rfl⟩ := h
  obtain ⟨ax, c, rfl, _⟩ := hj.is
  rw [ho.len] at hj
  have HB := Lib.hid (Joins.below_alloc1 w (.cells #[.int .i64 0, .int .i64 0, .slice none 0 0] 35))
  have hj2 := hj.next (Joins.below_alloc1 w (.cells #[.int .i64 0, .int .i64 0, .slice none 0 0] 35))
  have c1 := hj2.c1
  have c2 := hj2.c2
  have hr := Rb.new w 0 0 none 0 0
  have r0 := hr.f0 0
  have q1 : decide (last ≤ (uss.length : Int)) = true := decide_eq_true hl
  clear hj hj2 ho hs hr hl
  go_enter Tryd.func57, Tryd.ntmps57
  go_wp2_with fail
  go_quiet (fail)
  go_wp2
  refine bodyPost_ret (v := .tuple #[.agg #[.int .i64 0, .int .i64 0, .slice none 0 0], .int .i64 8]) (by simp [results, Tryd.results57, go_sem]) rfl ⟨rfl, below_set3 (belN HB.out _) (Nat.le_refl _) _ _ _⟩
set_option maxHeartbeats 8000000 in
theorem dadd_err (hl : ¬ last ≤ (uss.length : Int)) (hn : uss.length ≤ 1000) (er : Int) (h0 : ¬ er = 0) (a : Option Addr) (len cap : Nat) (us : List Up) (he : mayR o ((uss.length + 1 : Nat) : Int) us = er) (hsm : Sm us) (w : World) (hu : IsUs w a len us) (hlc : len ≤ cap) (hna : a = none → cap = 0) (h : Jx 64 B w b F o last uss) :
    Calls Tryd.prog 57 #[.pointer (some ⟨b, 0, none⟩), .slice a len cap] w fun e w' => e = .returned (.tuple #[rv rn0, .int .i64 er]) ∧ Below w.heap.size w w' := by
  have k1 : (er == 0) = false := by rw [beq_eq_false_iff_ne]; exact h0
  obtain ⟨v, S, rs, hj, ho, hs, rfl⟩ := h
  obtain ⟨ax, c, rfl, _⟩ := hj.is
  rw [← ho.len] at hl hn he
  obtain ⟨N, hN⟩ : ∃ N : Int, ((rs.length + 1 : Nat) : Int) = N := ⟨_, rfl⟩
  rw [hN] at he
  have hwr : IntKind.i64.wrap ((rs.length : Int) + 1) = N := by
    rw [show (rs.length : Int) + 1 = N by omega]
    exact i64_id (by omega) (by omega)
  obtain rfl := hu.size
  have hul : us.length ≤ 1000 := hsm.1
  have hA := Joins.below_alloc1 w (.cells #[.int .i64 0, .int .i64 0, .slice none 0 0] 35)
  have hj2 := hj.next hA
  have c0 := hj2.c0
  have c1 := hj2.c1
  have c2 := hj2.c2
  have q1 : decide (last ≤ (rs.length : Int)) = false := decide_eq_false hl
  have HM := fun a' c' w hu => Lib.hid (docmay_any o N a' us.length c' us w hu)
  rw [he] at HM
  have HU := Lib.hid hu
  have HJ := Lib.hid hj
  have HO := Lib.hid ho
  have HS := Lib.hid hs
  have HSM := Lib.hid hsm
  have HN := Lib.hid hN
  have HR := Lib.hid (Rb.new w 0 0 none 0 0)
  have HA := Lib.hid hA
  have HSZ : Hid ((w.alloc (.cells #[.int .i64 0, .int .i64 0, .slice none 0 0] 35)).heap.size = w.heap.size + 1) := Lib.hid (by simp)
  have HK : Hid (∀ W, Below w.heap.size w W → W.cell? ⟨b, 0, none⟩ = some (.int .i64 o) ∧ W.cell? ⟨b, 2, none⟩ = some (.slice ax rs.length c)) := Lib.hid fun W hW => ⟨(HJ.out.next hW).c0, (HJ.out.next hW).c2⟩
  clear hj hj2 ho hs hl hN hu hA he hsm
  go_enter Tryd.func57, Tryd.ntmps57
  go_wp2_with fail
  go_quiet (fail)
  revert nq
  intro n1
  go_upto_region 3 with fail
  generalize hX : (w.alloc (.cells #[.int .i64 0, .int .i64 0, .slice none 0 0] 35)).drewN n1 = X at *
  have HX0 : Hid (Below w.heap.size w X.drew) := by
    have := belN HA.out (n1 + 1)
    refine Lib.hid ?_
    rw [← hX]
    exact this
  have HXR : Hid (Rb X.drew w.heap.size 0 0 none 0 0) := by
    have := HR.out.drewN (n1 + 1)
    refine Lib.hid ?_
    rw [← hX]
    exact this
  have HXS : Hid (X.drew.heap.size = w.heap.size + 1) := by
    refine Lib.hid ?_
    rw [← hX]
    exact HSZ.out
  have hc := HK.out _ HX0.out
  clear HA HR HSZ c0 c1 c2
  go_cut [6] from 19 to 32 (fun v6 wx => ∃ (rb : Nat) (a' : Option Addr) (c' : Nat), v6 = .pointer (some ⟨rb, 0, none⟩) ∧ Rb wx rb o N a' us.length c' ∧ RowU w.heap.size wx (.slice a' us.length c') us ∧ Rb wx w.heap.size 0 0 none 0 0 ∧ Below w.heap.size w wx ∧ w.heap.size < rb)
  case first =>
    refine wp_region_held_drew (S := fun w' => w'.cell? ⟨b, 0, none⟩ = some (.int .i64 o) ∧ w'.cell? ⟨b, 2, none⟩ = some (.slice ax rs.length c)) (by kernel_rfl) ?_ (fun hH => ?_)
    · exact hc
    have HB0 := HX0
    have HR0 := HXR
    refine tkH 0 ?_ ?_ ?_
    rotate_left
    · intro w h; try dsimp only at h
      obtain ⟨q0, q2⟩ := h; go_simp; all_goals with_reducible rfl
    try simp only [pt]
    refine tkH 1 ?_ ?_ ?_
    rotate_left
    · intro w h; try dsimp only at h
      obtain ⟨q0, q2⟩ := h; go_simp; all_goals with_reducible rfl
    try simp only [pt]
    refine tkH 2 ?_ ?_ ?_
    rotate_left
    · intro w h; try dsimp only at h
      obtain ⟨q0, q2⟩ := h; go_simp; all_goals with_reducible rfl
    try simp only [pt]
    refine tkH 3 ?_ ?_ ?_
    rotate_left
    · intro w h; try dsimp only at h
      obtain ⟨q0, q2⟩ := h; go_simp; all_goals with_reducible rfl
    try simp only [pt]
    refine tkH 4 ?_ ?_ ?_
    rotate_left
    · intro w h; try dsimp only at h
      obtain ⟨q0, q2⟩ := h; go_simp; all_goals with_reducible rfl
    try simp only [pt]
    refine tkH 5 ?_ ?_ ?_
    rotate_left
    · intro w h; try dsimp only at h
      obtain ⟨q0, q2⟩ := h; go_simp; all_goals with_reducible rfl
    try simp only [pt]
    refine tkH 6 ?_ ?_ ?_
    rotate_left
    · intro w h; try dsimp only at h
      obtain ⟨q0, q2⟩ := h; go_simp; all_goals with_reducible rfl
    try simp only [pt]
    refine tkH 7 ?_ ?_ ?_
    rotate_left
    · intro w h; try dsimp only at h
      obtain ⟨q0, q2⟩ := h; go_simp; all_goals with_reducible rfl
    try simp only [pt]
    refine tkH 8 ?_ ?_ ?_
    rotate_left
    · intro w h; try dsimp only at h
      obtain ⟨q0, q2⟩ := h; go_simp; all_goals with_reducible rfl
    try simp only [pt]
    refine tkH 9 ?_ ?_ ?_
    rotate_left
    · intro w h; try dsimp only at h
      obtain ⟨q0, q2⟩ := h; go_simp; all_goals with_reducible rfl
    try simp only [pt]
    refine tkH 11 ?_ ?_ ?_
    rotate_left
    · intro w h; try dsimp only at h
      obtain ⟨q0, q2⟩ := h; go_simp; all_goals with_reducible rfl
    try simp only [pt]
    refine wpAnyH_ready (rs := [10, 14]) (by kernel_rfl) (by simp) ?_
    refine rdH (fun K hK => ?_) ?_
    · go_simp
      have HB1 : Hid (Below w.heap.size w (X.drew.alloc (.cells #[] 32))) := Lib.hid (Below.step HB0.out (.cells #[] 32) (Below.refl _ _))
      have HR1 := Lib.hid (HR0.out.alloc (.cells #[] 32))
      have hk1 := HK.out _ HB1.out
      have HROW : Hid (RowU w.heap.size (X.drew.alloc (.cells #[] 32)) (.slice (some ⟨X.heap.size, 0, none⟩) 0 0) []) := Lib.hid ((rowU_new X.drew).lower (by rw [HXS.out]; omega))
      refine hK.out _ _ ?_ (fun hH => ?_)
      · exact hk1
      clear hK K
      try simp only [pt]
      refine wpAnyH_ready (rs := [12, 14]) (by kernel_rfl) (by simp) ?_
      refine rdH (fun K hK => ?_) ?_
      · obtain ⟨a', c', w4, hrun, HRU, HB2, HKP, HGE⟩ := d3_app 33 HU.out HB1.out HROW.out hlc hna hul
        have HR2 : Hid (Rb w4 w.heap.size 0 0 none 0 0) := Lib.hid (rb_kept HR1.out HKP.out (by have := HXS.out; simp at this ⊢; omega))
        have hk2 := HK.out _ HB2.out
        refine step_append_run (by rfl) (.tmp 29) (.tmp 30) 33 rfl _ _ _ rfl rfl hrun ?_
        refine hK.out _ _ ?_ (fun hH => ?_)
        · exact hk2
        clear hK K
        try simp only [pt]
        refine tkH 13 ?_ ?_ ?_
        rotate_left
        · intro w h; try dsimp only at h
          obtain ⟨q0, q2⟩ := h; go_simp; all_goals with_reducible rfl
        try simp only [pt]
        refine wpAnyH_ready (rs := [14]) (by kernel_rfl) (by simp) ?_
        refine rdH (fun K hK => ?_) ?_
        · go_simp
          have HBW : Hid (Below w.heap.size w (w4.alloc (.cells #[.int .i64 o, .int .i64 N, .slice a' us.length c'] 35))) := Lib.hid (Below.step HB2.out (.cells #[.int .i64 o, .int .i64 N, .slice a' us.length c'] 35) (Below.refl _ _))
          have HB3z : Hid (Below w.heap.size w (w4.alloc (.cells #[.int .i64 0, .int .i64 0, .slice none 0 0] 35))) := Lib.hid (Below.step HB2.out (.cells #[.int .i64 0, .int .i64 0, .slice none 0 0] 35) (Below.refl _ _))
          have HRW := Lib.hid (HR2.out.alloc (.cells #[.int .i64 o, .int .i64 N, .slice a' us.length c'] 35))
          have HRBW := Lib.hid (Rb.new w4 o N a' us.length c')
          have HRUW : Hid (RowU w.heap.size (w4.alloc (.cells #[.int .i64 o, .int .i64 N, .slice a' us.length c'] 35)) (.slice a' us.length c') us) := Lib.hid (HRU.out.alloc _)
          have hk3 := HK.out _ HBW.out
          have HLR : Hid (w.heap.size < w4.heap.size) := Lib.hid HR2.out.lt
          have hk3z := HK.out _ HB3z.out
          refine hK.out _ _ ?_ (fun hH => ?_)
          · exact hk3z
          clear hK K
          try simp only [pt]
          refine wpAnyH_ready (rs := [15]) (by kernel_rfl) (by simp) ?_
          refine rdH (fun K hK => ?_) ?_
          · go_simp
            refine hK.out _ _ ?_ (fun hH => ?_)
            · exact hk3
            clear hK K
            try simp only [pt]
            refine wpAnyH_done (by kernel_rfl) ?_ _
            go_wp2_with fail
            go_meet
            case rel => exact ⟨_, a', c', rfl, HRBW.out, HRUW.out, HRW.out, HBW.out, HLR.out⟩
          exact AllReadyH.nil
        exact AllReadyH.nil
      refine rdH (fun K hK => ?_) ?_
      · go_simp
        have HB2 : Hid (Below w.heap.size w ((X.drew.alloc (.cells #[] 32)).alloc (.cells #[.int .i64 0, .int .i64 0, .slice none 0 0] 35))) := Lib.hid (Below.step HB1.out (.cells #[.int .i64 0, .int .i64 0, .slice none 0 0] 35) (Below.refl _ _))
        have HR2 := Lib.hid (HR1.out.alloc (.cells #[.int .i64 0, .int .i64 0, .slice none 0 0] 35))
        have hk2 := HK.out _ HB2.out
        have HROW : Hid (RowU w.heap.size ((X.drew.alloc (.cells #[] 32)).alloc (.cells #[.int .i64 0, .int .i64 0, .slice none 0 0] 35)) (.slice (some ⟨X.heap.size, 0, none⟩) 0 0) []) := Lib.hid (HROW.out.alloc _)
        have HQ2 : Hid (Rb ((X.drew.alloc (.cells #[] 32)).alloc (.cells #[.int .i64 0, .int .i64 0, .slice none 0 0] 35)) (X.heap.size + 1) 0 0 none 0 0) := Lib.hid (by have := Rb.new (X.drew.alloc (.cells #[] 32)) 0 0 none 0 0; simpa using this)
        refine hK.out _ _ ?_ (fun hH => ?_)
        · exact hk2
        clear hK K
        try simp only [pt]
        refine wpAnyH_ready (rs := [12]) (by kernel_rfl) (by simp) ?_
        refine rdH (fun K hK => ?_) ?_
        · obtain ⟨a', c', w4, hrun, HRU, HB3, HKP, HGE⟩ := d3_app 33 HU.out HB2.out HROW.out hlc hna hul
          have HR3 : Hid (Rb w4 w.heap.size 0 0 none 0 0) := Lib.hid (rb_kept HR2.out HKP.out (by have := HXS.out; simp at this ⊢; omega))
          have hk3 := HK.out _ HB3.out
          have HQ4 : Hid (Rb w4 (X.heap.size + 1) 0 0 none 0 0) := Lib.hid (rb_kept HQ2.out HKP.out (by simp))
          refine step_append_run (by rfl) (.tmp 29) (.tmp 30) 33 rfl _ _ _ rfl rfl hrun ?_
          refine hK.out _ _ ?_ (fun hH => ?_)
          · exact hk3
          clear hK K
          try simp only [pt]
          refine tkH 13 ?_ ?_ ?_
          rotate_left
          · intro w h; try dsimp only at h
            obtain ⟨q0, q2⟩ := h; go_simp; all_goals with_reducible rfl
          try simp only [pt]
          refine wpAnyH_ready (rs := [15]) (by kernel_rfl) (by simp) ?_
          refine rdH (fun K hK => ?_) ?_
          · have e0 := HQ4.out.c0
            have e1 := HQ4.out.c1
            have e2 := HQ4.out.c2
            have g0 := HQ4.out.f0 0
            have g1 := HQ4.out.f0 1
            have g2 := HQ4.out.f0 2
            have HLR : Hid (w.heap.size < (X.heap.size + 1)) := Lib.hid (by have := HXS.out; simp at this ⊢; omega)
            have HBW : Hid (Below w.heap.size w (((w4.setCell ⟨(X.heap.size + 1), 0, none⟩ (.int .i64 o)).setCell ⟨(X.heap.size + 1), 1, none⟩ (.int .i64 N)).setCell ⟨(X.heap.size + 1), 2, none⟩ (.slice a' us.length c'))) := Lib.hid (below_set3 HB3.out (Nat.le_of_lt HLR.out) _ _ _)
            have HRBW : Hid (Rb (((w4.setCell ⟨(X.heap.size + 1), 0, none⟩ (.int .i64 o)).setCell ⟨(X.heap.size + 1), 1, none⟩ (.int .i64 N)).setCell ⟨(X.heap.size + 1), 2, none⟩ (.slice a' us.length c')) ((X.heap.size + 1)) o N a' us.length c') := Lib.hid (((HQ4.out.set0 o).set1 N).set2 a' us.length c')
            have hne : w.heap.size ≠ (X.heap.size + 1) := Nat.ne_of_lt HLR.out
            have HRW : Hid (Rb (((w4.setCell ⟨(X.heap.size + 1), 0, none⟩ (.int .i64 o)).setCell ⟨(X.heap.size + 1), 1, none⟩ (.int .i64 N)).setCell ⟨(X.heap.size + 1), 2, none⟩ (.slice a' us.length c')) w.heap.size 0 0 none 0 0) := Lib.hid (((HR3.out.setnew hne _ _).setnew hne _ _).setnew hne _ _)
            have HRUW : Hid (RowU w.heap.size (((w4.setCell ⟨(X.heap.size + 1), 0, none⟩ (.int .i64 o)).setCell ⟨(X.heap.size + 1), 1, none⟩ (.int .i64 N)).setCell ⟨(X.heap.size + 1), 2, none⟩ (.slice a' us.length c')) (.slice a' us.length c') us) := Lib.hid (HRU.out.set3 HQ4.out _ _ _)
            have hkw := HK.out _ HBW.out
            clear hne
            go_simp
            refine hK.out _ _ ?_ (fun hH => ?_)
            · exact hkw
            clear hK K
            try simp only [pt]
            refine wpAnyH_done (by kernel_rfl) ?_ _
            go_wp2_with fail
            go_meet
            case rel => exact ⟨_, a', c', rfl, HRBW.out, HRUW.out, HRW.out, HBW.out, HLR.out⟩
          exact AllReadyH.nil
        exact AllReadyH.nil
      exact AllReadyH.nil
    refine rdH (fun K hK => ?_) ?_
    · go_simp
      have HB1 : Hid (Below w.heap.size w (X.drew.alloc (.cells #[.int .i64 0, .int .i64 0, .slice none 0 0] 35))) := Lib.hid (Below.step HB0.out (.cells #[.int .i64 0, .int .i64 0, .slice none 0 0] 35) (Below.refl _ _))
      have HR1 := Lib.hid (HR0.out.alloc (.cells #[.int .i64 0, .int .i64 0, .slice none 0 0] 35))
      have hk1 := HK.out _ HB1.out
      have HQ1 : Hid (Rb (X.drew.alloc (.cells #[.int .i64 0, .int .i64 0, .slice none 0 0] 35)) X.heap.size 0 0 none 0 0) := Lib.hid (Rb.new X.drew 0 0 none 0 0)
      refine hK.out _ _ ?_ (fun hH => ?_)
      · exact hk1
      clear hK K
      try simp only [pt]
      refine wpAnyH_ready (rs := [10]) (by kernel_rfl) (by simp) ?_
      refine rdH (fun K hK => ?_) ?_
      · go_simp
        have HB2 : Hid (Below w.heap.size w ((X.drew.alloc (.cells #[.int .i64 0, .int .i64 0, .slice none 0 0] 35)).alloc (.cells #[] 32))) := Lib.hid (Below.step HB1.out (.cells #[] 32) (Below.refl _ _))
        have HR2 := Lib.hid (HR1.out.alloc (.cells #[] 32))
        have hk2 := HK.out _ HB2.out
        have HROW : Hid (RowU w.heap.size ((X.drew.alloc (.cells #[.int .i64 0, .int .i64 0, .slice none 0 0] 35)).alloc (.cells #[] 32)) (.slice (some ⟨X.heap.size + 1, 0, none⟩) 0 0) []) := Lib.hid (by
          have := (rowU_new (X.drew.alloc (.cells #[.int .i64 0, .int .i64 0, .slice none 0 0] 35))).lower (show w.heap.size ≤ (X.drew.alloc (.cells #[.int .i64 0, .int .i64 0, .slice none 0 0] 35)).heap.size by have := HXS.out; simp at this ⊢; omega)
          rw [show (X.drew.alloc (.cells #[.int .i64 0, .int .i64 0, .slice none 0 0] 35)).heap.size = X.heap.size + 1 by simp] at this
          exact this)
        have HQ2 := Lib.hid (HQ1.out.alloc (.cells #[] 32))
        refine hK.out _ _ ?_ (fun hH => ?_)
        · exact hk2
        clear hK K
        try simp only [pt]
        refine wpAnyH_ready (rs := [12]) (by kernel_rfl) (by simp) ?_
        refine rdH (fun K hK => ?_) ?_
        · obtain ⟨a', c', w4, hrun, HRU, HB3, HKP, HGE⟩ := d3_app 33 HU.out HB2.out HROW.out hlc hna hul
          have HR3 : Hid (Rb w4 w.heap.size 0 0 none 0 0) := Lib.hid (rb_kept HR2.out HKP.out (by have := HXS.out; simp at this ⊢; omega))
          have hk3 := HK.out _ HB3.out
          have HQ4 : Hid (Rb w4 (X.heap.size) 0 0 none 0 0) := Lib.hid (rb_kept HQ2.out HKP.out (by simp))
          refine step_append_run (by rfl) (.tmp 29) (.tmp 30) 33 rfl _ _ _ rfl rfl hrun ?_
          refine hK.out _ _ ?_ (fun hH => ?_)
          · exact hk3
          clear hK K
          try simp only [pt]
          refine tkH 13 ?_ ?_ ?_
          rotate_left
          · intro w h; try dsimp only at h
            obtain ⟨q0, q2⟩ := h; go_simp; all_goals with_reducible rfl
          try simp only [pt]
          refine wpAnyH_ready (rs := [15]) (by kernel_rfl) (by simp) ?_
          refine rdH (fun K hK => ?_) ?_
          · have e0 := HQ4.out.c0
            have e1 := HQ4.out.c1
            have e2 := HQ4.out.c2
            have g0 := HQ4.out.f0 0
            have g1 := HQ4.out.f0 1
            have g2 := HQ4.out.f0 2
            have HLR : Hid (w.heap.size < X.heap.size) := Lib.hid (by have := HXS.out; simp at this ⊢; omega)
            have HBW : Hid (Below w.heap.size w (((w4.setCell ⟨X.heap.size, 0, none⟩ (.int .i64 o)).setCell ⟨X.heap.size, 1, none⟩ (.int .i64 N)).setCell ⟨X.heap.size, 2, none⟩ (.slice a' us.length c'))) := Lib.hid (below_set3 HB3.out (Nat.le_of_lt HLR.out) _ _ _)
            have HRBW : Hid (Rb (((w4.setCell ⟨X.heap.size, 0, none⟩ (.int .i64 o)).setCell ⟨X.heap.size, 1, none⟩ (.int .i64 N)).setCell ⟨X.heap.size, 2, none⟩ (.slice a' us.length c')) (X.heap.size) o N a' us.length c') := Lib.hid (((HQ4.out.set0 o).set1 N).set2 a' us.length c')
            have hne : w.heap.size ≠ X.heap.size := Nat.ne_of_lt HLR.out
            have HRW : Hid (Rb (((w4.setCell ⟨X.heap.size, 0, none⟩ (.int .i64 o)).setCell ⟨X.heap.size, 1, none⟩ (.int .i64 N)).setCell ⟨X.heap.size, 2, none⟩ (.slice a' us.length c')) w.heap.size 0 0 none 0 0) := Lib.hid (((HR3.out.setnew hne _ _).setnew hne _ _).setnew hne _ _)
            have HRUW : Hid (RowU w.heap.size (((w4.setCell ⟨X.heap.size, 0, none⟩ (.int .i64 o)).setCell ⟨X.heap.size, 1, none⟩ (.int .i64 N)).setCell ⟨X.heap.size, 2, none⟩ (.slice a' us.length c')) (.slice a' us.length c') us) := Lib.hid (HRU.out.set3 HQ4.out _ _ _)
            have hkw := HK.out _ HBW.out
            clear hne
            go_simp
            refine hK.out _ _ ?_ (fun hH => ?_)
            · exact hkw
            clear hK K
            try simp only [pt]
            refine wpAnyH_done (by kernel_rfl) ?_ _
            go_wp2_with fail
            go_meet
            case rel => exact ⟨_, a', c', rfl, HRBW.out, HRUW.out, HRW.out, HBW.out, HLR.out⟩
          exact AllReadyH.nil
        exact AllReadyH.nil
      exact AllReadyH.nil
    exact AllReadyH.nil
  case rest =>
    obtain ⟨rb, a', c', rfl, hrb, hru, hr, hb, hlt⟩ := hcut
    have HRBW := Lib.hid hrb
    have HRUW := Lib.hid hru
    have HRW := Lib.hid hr
    have HBW := Lib.hid hb
    have HLR := Lib.hid hlt
    clear hrb hru hr hb hlt hc hX
    have d0 := HRBW.out.c0
    have d1 := HRBW.out.c1
    have d2 := HRBW.out.c2
    clear HK
    go_wp2_with fail
    refine (HM _ _ _ (HRUW.out.isU rfl).1).out.mono ?_
    rintro e w5 ⟨rfl, hb⟩
    have hr5 := HRW.out.next hb
    have HB5 := Lib.hid (Below.next HBW.out hb)
    have g0' := hr5.c0
    have g1' := hr5.c1
    have g2' := hr5.c2
    have f0 := hr5.f0 0
    have f1 := hr5.f0 1
    have f2 := hr5.f0 2
    have h0' := ((hr5.set0 0).set1 0).set2 none 0 0
    have k0' := h0'.c0
    have k1' := h0'.c1
    have k2' := h0'.c2
    clear hb hr5 h0' d0 d1 d2
    go_wp2
    refine bodyPost_ret (v := .tuple #[.agg #[.int .i64 0, .int .i64 0, .slice none 0 0], .int .i64 er]) (by simp [results, Tryd.results57, go_sem, k0', k1', k2']) rfl ⟨rfl, below_set3 HB5.out (Nat.le_refl _) _ _ _⟩
end
end Go.Proofs.YtbbgibekplfacaaDoor
