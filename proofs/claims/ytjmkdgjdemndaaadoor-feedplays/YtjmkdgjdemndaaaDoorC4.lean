/- The document's Add: what it needs; when it refuses. -/
import Derived.Test.YtjmkdgjdemndaaaDoorC3
namespace Go.Proofs.YtjmkdgjdemndaaaDoor
open Go Go.RowKit
set_option maxRecDepth 20000
theorem RowU.lower {B B' : Nat} {w : World} {v : Value} {l : List Up} (h : RowU B w v l) (hB : B' ≤ B) : RowU B' w v l := by
  refine ⟨h.1, ?_⟩
  rcases h.2 with h' | ⟨g, cap, cur, rfl, hb, r⟩
  · exact .inl h'
  · exact .inr ⟨g, cap, cur, rfl, Nat.le_trans hB hb, r⟩
theorem RowR.lower {B B' : Nat} {w : World} {v : Value} {l : List Rn} (h : RowR B w v l) (hB : B' ≤ B) : RowR B' w v l := by
  refine ⟨h.1, ?_⟩
  rcases h.2 with h' | ⟨g, cap, cur, rfl, hb, r⟩
  · exact .inl h'
  · exact .inr ⟨g, cap, cur, rfl, Nat.le_trans hB hb, r⟩
theorem RowU.typ {B : Nat} {w : World} {v : Value} {l : List Up} (h : RowU B w v l) (j : Nat) (hj : v.ownBlock = some j) : B ≤ j ∧ ∃ cur, w.heap[j]? = some (.cells cur 114 (0, 0)) := by
  rcases h.2 with ⟨rfl, _⟩ | ⟨g, cap, cur, rfl, hb, hh, _⟩
  · cases hj
  · simp only [Value.ownBlock, Option.some.injEq] at hj
    subst hj
    exact ⟨hb, cur, hh⟩
theorem RowU.same {B : Nat} {w w1 : World} {v : Value} {l : List Up} (h : RowU B w v l) (hg : ∀ j, v.ownBlock = some j → w1.heap[j]? = w.heap[j]?) : RowU B w1 v l := by
  refine ⟨h.1, ?_⟩
  rcases h.2 with h' | ⟨g, cap, cur, rfl, hb, hh, r⟩
  · exact .inl h'
  · exact .inr ⟨g, cap, cur, rfl, hb, (hg g rfl).trans hh, r⟩
theorem RowU.set3 {B k : Nat} {w : World} {v : Value} {l : List Up} {o n : Int} {a : Option Addr} {l' c : Nat} (h : RowU B w v l) (hr : Rb w k o n a l' c) (x0 x1 x2 : Value) : RowU B (((w.setCell ⟨k, 0, none⟩ x0).setCell ⟨k, 1, none⟩ x1).setCell ⟨k, 2, none⟩ x2) v l :=
  h.same fun j hj => by
    obtain ⟨_, cur, hc⟩ := h.typ j hj
    have hne : j ≠ k := two_types hc hr (by decide)
    rw [Below.heap_setCell _ _ _ _ hne, Below.heap_setCell _ _ _ _ hne, Below.heap_setCell _ _ _ _ hne]
section
variable {T : TypeId} {B b : Nat} {w w1 w2 w3 W : World} {cs : Array Value} {v : Value} {S : Nat → Prop} {F : Nat → Prop} {rs : List Rn}
/-- append([]api.Round{}, l.L...), within Add. -/
theorem d7_app0 {ax : Option Addr} {c q : Nat} (ty : TypeId) (h : Kn T B w2 b cs (.slice ax rs.length c) S rs) (hb : Below w2.heap.size w2 W) (hrow : RowR w2.heap.size W (.slice (some ⟨q, 0, none⟩) 0 0) []) (hn : rs.length ≤ 1000) :
    ∃ a1 c1 w5, (Builtin.append_ #[57, 57] ty #[.slice (some ⟨q, 0, none⟩) 0 0, .slice ax rs.length c]).run Tryd.prog W = .ok (.slice a1 rs.length c1) w5 ∧ Hid (RowR w2.heap.size w5 (.slice a1 rs.length c1) rs) ∧ Hid (Below w2.heap.size w2 w5) ∧ Hid (∀ k, k < W.heap.size → k ≠ q → w5.heap[k]? = W.heap[k]?) := by
  obtain ⟨a', c', e, hx, hc, hn'⟩ := (h.next hb).is
  cases e
  obtain ⟨a1, c1, w5, r1, r2, r3, r4⟩ := run_appR W ty w2.heap.size _ [] hrow ax rs.length c rs hx.at hc hn' (by simp only [List.length_nil]; omega) hb.size
  simp only [List.length_nil, Nat.zero_add, List.nil_append] at r1 r2 r4
  exact ⟨a1, c1, w5, r1, r2, belR hrow hb r3 hb.size, fun k hk hne => r3.block k hk (fun e => hne (by simp only [Value.ownBlock, Option.some.injEq] at e; exact e))⟩
theorem rsOne_kept {w5 : World} {k q : Nat} {r : Rn} (h : RsAt W (some ⟨k, 0, none⟩) 1 [r]) (hk : ∀ k, k < W.heap.size → k ≠ q → w5.heap[k]? = W.heap[k]?) (hq : k ≠ q) : RsAt w5 (some ⟨k, 0, none⟩) 1 [r] := by
  refine ⟨rfl, fun h0 => ?_⟩
  obtain ⟨b, off, e, hf⟩ := h.lies h0
  cases e
  have hl := hf.lt (by simp)
  have hh : ∀ i, w5.cell? ⟨k, i, none⟩ = W.cell? ⟨k, i, none⟩ := fun i => World.cell?_of_block (hk k hl hq)
  exact ⟨k, 0, rfl, three fun i hi => ⟨(hh _).trans (hf.o i hi), (hh _).trans (hf.n i hi), (hh _).trans (hf.u i hi)⟩⟩
theorem d7_app1 {a1 : Option Addr} {c1 k : Nat} (ty : TypeId) {r : Rn} (hb : Below w2.heap.size w2 W) (hrow : RowR w2.heap.size W (.slice a1 rs.length c1) rs) (hr : RsAt W (some ⟨k, 0, none⟩) 1 [r]) (hn : rs.length ≤ 1000) :
    ∃ a2 c2 w6, (Builtin.append_ #[57, 57] ty #[.slice a1 rs.length c1, .slice (some ⟨k, 0, none⟩) 1 1]).run Tryd.prog W = .ok (.slice a2 (rs.length + 1) c2) w6 ∧ Hid (RowR w2.heap.size w6 (.slice a2 (rs.length + 1) c2) (rs ++ [r])) ∧ Hid (Below w2.heap.size w2 w6) := by
  obtain ⟨a2, c2, w6, r1, r2, r3, _⟩ := run_appR W ty w2.heap.size _ rs hrow (some ⟨k, 0, none⟩) 1 1 [r] hr (Nat.le_refl _) (fun e => by cases e) (by omega) hb.size
  exact ⟨a2, c2, w6, r1, r2, belR hrow hb r3 hb.size⟩
/-- How it stands when the document's Add returns: w2 ahead of the row's copy, w6 behind the second append. -/
theorem cd_done {w6 : World} {ax a' a2 : Option Addr} {cp c' c2 : Nat} {us : List Up} {o n c : Int} {L : List Cr} (h : Kn 78 B w b cs (.slice ax rs.length cp) S rs) (hP : Pd c L (.slice ax rs.length cp) cs) (he : rs.map kR = L) (hs : ∀ r ∈ L, Sm r.2.2) (hg : Good c L) (h1 : 1 ≤ c) (h2 : c ≤ 64) (hsm : Sm us) (hce : comE c L (o, n, us) = 0)
    (hA : Below w.heap.size w w2) (hru : RowU w.heap.size w2 (.slice a' us.length c') us)
    (hb6 : Below w2.heap.size w2 w6) (hrow : RowR w2.heap.size w6 (.slice a2 (rs.length + 1) c2) (rs ++ [⟨o, n, a', us.length, c', us⟩])) :
    ∃ F', Cx 78 Pd B (w6.setCell ⟨b, 1, none⟩ (.slice a2 (rs.length + 1) c2)) b F' c (L ++ [(o, n, us)]) ∧ Lv w (w6.setCell ⟨b, 1, none⟩ (.slice a2 (rs.length + 1) c2)) (Jf b (.slice ax rs.length cp) S) ∧ ∀ k, F' k → Jf b (.slice ax rs.length cp) S k ∨ w.heap.size ≤ k := by
  have h6 := (h.next hA).next hb6
  have s6 := hb6.size
  have sA := hA.size
  have hbl := h.lt
  have hru6 : RowU w.heap.size w6 (.slice a' us.length c') us := hru.below hb6
  have hru6' := hru6.isU rfl
  have b6 := h6.blk
  have hBl : B ≤ w.heap.size := Nat.le_trans h.lo (Nat.le_of_lt hbl)
  have hne : (Value.slice a2 (rs.length + 1) c2).ownBlock ≠ some b := fun e => by
    obtain ⟨_, cur, hc⟩ := hrow.typ b e
    exact two_types b6 hc (by decide) rfl
  have hSb := h6.bS (by decide)
  have hub : (Value.slice a' us.length c').ownBlock ≠ some b := fun e => by
    obtain ⟨_, cur, hc⟩ := hru6.typ b e
    exact two_types b6 hc (by decide) rfl
  have hown : ∀ g off, a' = some ⟨g, off, none⟩ → (Value.slice a' us.length c').ownBlock = some g := fun g off e => by
    subst e
    rcases hru6.2 with ⟨e, _⟩ | ⟨g', cap, cur, e, _⟩
    · cases e
    · cases e
      rfl
  have hj : Kn 78 B (w6.setCell ⟨b, 1, none⟩ (.slice a2 (rs.length + 1) c2)) b (cs.setIfInBounds 1 (.slice a2 (rs.length + 1) c2)) (.slice a2 (rs.length + 1) c2) (fun k => S k ∨ (Value.slice a' us.length c').ownBlock = some k) (rs ++ [⟨o, n, a', us.length, c', us⟩]) := by
    refine ⟨h.lo, by simp [World.setCell, Array.getElem?_modify, b6], (hrow.lower (by omega)).same fun j hj => Below.heap_setCell _ _ _ _ (fun e => hne (by rw [hj, e])), fun x hx => ?_, fun k hk => ?_⟩
    · rcases List.mem_append.1 hx with hx | hx
      · obtain ⟨y1, y2⟩ := h6.each x hx
        refine ⟨⟨isUs_same y1.1 fun j off e => ?_, y1.2⟩, fun j off e => .inl (y2 j off e)⟩
        have hj := y2 j off e
        rw [Below.heap_setCell _ _ _ _ (fun e => hSb (by have e' : j = b := e; rw [← e']; exact hj))]
      · rw [List.mem_singleton.1 hx]
        refine ⟨⟨isUs_same hru6'.1 fun j off e => ?_, hru6'.2⟩, fun j off e => .inr (hown j off e)⟩
        rw [Below.heap_setCell _ _ _ _ (fun e' => hub (by rw [hown j off e, e']))]
    · rcases hk with hk | hk
      · obtain ⟨y1, cur, y2⟩ := h6.own k hk
        refine ⟨y1, cur, ?_⟩
        rw [Below.heap_setCell _ _ _ _ (fun e => hSb (by have e' : k = b := e; rw [← e']; exact hk))]
        exact y2
      · obtain ⟨y1, cur, y2⟩ := hru6.typ k hk
        refine ⟨by omega, cur, ?_⟩
        rw [Below.heap_setCell _ _ _ _ (fun e => hub (by rw [hk, e]))]
        exact y2
  refine ⟨_, ⟨_, _, _, _, hj, hP.add (o, n, us), ?_, fun r hr => ?_, hg.snoc hce, h1, h2, rfl⟩, ((Lv.ofBelow hA _).trans (Lv.ofBelow hb6 _)).trans (Lv.set (.inl rfl) _ _), fun k hk => ?_⟩
  · rw [List.map_append, he]
    rfl
  · rcases List.mem_append.1 hr with hr | hr
    · exact hs r hr
    · rw [List.mem_singleton.1 hr]
      exact hsm
  · rcases hk with hk | hk | hk | hk
    · exact .inl (.inl hk)
    · exact .inr (by have := (hrow.typ k hk).1; omega)
    · exact .inl (.inr (.inr hk))
    · exact .inr (hru.typ k hk).1
end
section
variable {B b : Nat} {F : Nat → Prop} {c : Int} {L : List Cr}
set_option maxHeartbeats 2000000 in
theorem cd_err (o n : Int) (a : Option Addr) (len cap : Nat) (us : List Up) (w : World) (hu : IsUs w a len us) (hm : ¬ mayR o n us = 0) :
    Calls Tryd.prog 20 #[.pointer (some ⟨b, 0, none⟩), .agg #[.int .i64 o, .int .i64 n, .slice a len cap]] w fun e w' => e = .returned (.int .i64 (mayR o n us)) ∧ Below w.heap.size w w' := by
  have hA := Joins.below_alloc1 w (.cells #[.int .i64 o, .int .i64 n, .slice a len cap] 43)
  have hr := Rb.new w o n a len cap
  have d0 := hr.c0
  have d1 := hr.c1
  have d2 := hr.c2
  have HM := fun w hu => Lib.hid (docmay_any o n a len cap us w hu)
  have HU := Lib.hid (isUs_below hu hA)
  have HA := Lib.hid hA
  obtain ⟨er, her⟩ : ∃ er, mayR o n us = er := ⟨_, rfl⟩
  rw [her] at HM hm ⊢
  have k1 : (er == 0) = false := by rw [beq_eq_false_iff_ne]; exact hm
  clear hA hr hu hm her
  go_enter Tryd.func20, Tryd.ntmps20
  go_wp2_with fail
  refine (HM _ HU.out).out.mono ?_
  rintro e w2 ⟨rfl, hb⟩
  have HA2 := Lib.hid (Below.next HA.out hb)
  clear hb HM d0 d1 d2
  go_wp2
  go_ret
  exact ⟨rfl, HA2.out⟩
set_option maxHeartbeats 2000000 in
theorem cd_11 (hn : L.length ≤ 1000) (o n : Int) (a : Option Addr) (len cap : Nat) (us : List Up) (w : World) (hu : IsUs w a len us) (h : Cx 78 Pd B w b F c L) (hm : mayR o n us = 0) (hq : c < o ∧ (lastL o L = 0 ∨ 0 < lastL o L + 1)) :
    Calls Tryd.prog 20 #[.pointer (some ⟨b, 0, none⟩), .agg #[.int .i64 o, .int .i64 n, .slice a len cap]] w fun e w' => e = .returned (.int .i64 11) ∧ Below w.heap.size w w' := by
  have hA := Joins.below_alloc1 w (.cells #[.int .i64 o, .int .i64 n, .slice a len cap] 43)
  have hr := Rb.new w o n a len cap
  have d0 := hr.c0
  have d1 := hr.c1
  have d2 := hr.c2
  have HM := fun w hu => Lib.hid (docmay_any o n a len cap us w hu)
  rw [hm] at HM
  have HU := Lib.hid (isUs_below hu hA)
  have HA := Lib.hid hA
  have HR := Lib.hid hr
  have HX := Lib.hid h
  have HL := fun w h => Lib.hid (dlast_any (B := B) (b := b) (F := F) (c := c) (L := L) o hn w h)
  have HC0 : Hid (∀ W, Below w.heap.size w W → W.cell? ⟨b, 0, none⟩ = some (.int .i64 c)) := Lib.hid fun W hW => by
    obtain ⟨cs, v, S, rs, hj, hp, _⟩ := h
    exact (hj.next hW).c 0 _ hp.2.1
  have hbd := h.good.bound o
  obtain ⟨x, hx⟩ : ∃ x, lastL o L = x := ⟨_, rfl⟩
  rw [hx] at HL hbd hq
  obtain ⟨N, hN⟩ : ∃ N, x + 1 = N := ⟨_, rfl⟩
  have hwr : IntKind.i64.wrap (x + 1) = N := by
    rw [hN]
    exact i64_id (by omega) (by omega)
  rw [hN] at hq
  have q1 : decide (c < o) = true := decide_eq_true (by omega)
  clear hA hr hu h hm hx hbd hN hq
  go_enter Tryd.func20, Tryd.ntmps20
  go_wp2_with fail
  refine (HM _ HU.out).out.mono ?_
  rintro e w1 ⟨rfl, hb⟩
  have HA1 := Lib.hid (Below.next HA.out hb)
  have hr1 := HR.out.next hb
  have d0 := hr1.c0
  have d1 := hr1.c1
  have d2 := hr1.c2
  have c0 := HC0.out _ HA1.out
  have HX1 := Lib.hid (HX.out.next HA1.out)
  have HR1 := Lib.hid hr1
  clear hb HM hr1
  go_wp2_with fail
  go_quiet (fail)
  revert nq
  intro n1
  have HX1 := Lib.hid (HX1.out.asit (w' := w1.drewN n1) rfl)
  have HA1 : Hid (Below w.heap.size w (w1.drewN n1)) := Lib.hid (belN HA1.out n1)
  have HR1 : Hid (Rb (w1.drewN n1) w.heap.size o n a len cap) := HR1
  have d0 := HR1.out.c0
  have d1 := HR1.out.c1
  have d2 := HR1.out.c2
  have c0 := HC0.out _ HA1.out
  generalize w1.drewN n1 = w1 at *
  go_wp2
  go_ret
  exact ⟨rfl, HA1.out⟩
set_option maxHeartbeats 2000000 in
theorem cd_12 (hn : L.length ≤ 1000) (o n : Int) (a : Option Addr) (len cap : Nat) (us : List Up) (w : World) (hu : IsUs w a len us) (h : Cx 78 Pd B w b F c L) (hm : mayR o n us = 0) (hq : ¬ c < o ∧ n ≤ lastL o L ∧ (lastL o L = 0 ∨ 0 < lastL o L + 1)) :
    Calls Tryd.prog 20 #[.pointer (some ⟨b, 0, none⟩), .agg #[.int .i64 o, .int .i64 n, .slice a len cap]] w fun e w' => e = .returned (.int .i64 12) ∧ Below w.heap.size w w' := by
  have hA := Joins.below_alloc1 w (.cells #[.int .i64 o, .int .i64 n, .slice a len cap] 43)
  have hr := Rb.new w o n a len cap
  have d0 := hr.c0
  have d1 := hr.c1
  have d2 := hr.c2
  have HM := fun w hu => Lib.hid (docmay_any o n a len cap us w hu)
  rw [hm] at HM
  have HU := Lib.hid (isUs_below hu hA)
  have HA := Lib.hid hA
  have HR := Lib.hid hr
  have HX := Lib.hid h
  have HL := fun w h => Lib.hid (dlast_any (B := B) (b := b) (F := F) (c := c) (L := L) o hn w h)
  have HC0 : Hid (∀ W, Below w.heap.size w W → W.cell? ⟨b, 0, none⟩ = some (.int .i64 c)) := Lib.hid fun W hW => by
    obtain ⟨cs, v, S, rs, hj, hp, _⟩ := h
    exact (hj.next hW).c 0 _ hp.2.1
  have hbd := h.good.bound o
  obtain ⟨x, hx⟩ : ∃ x, lastL o L = x := ⟨_, rfl⟩
  rw [hx] at HL hbd hq
  obtain ⟨N, hN⟩ : ∃ N, x + 1 = N := ⟨_, rfl⟩
  have hwr : IntKind.i64.wrap (x + 1) = N := by
    rw [hN]
    exact i64_id (by omega) (by omega)
  rw [hN] at hq
  have q1 : decide (c < o) = false := decide_eq_false (by omega)
  have q2 : decide (n ≤ x) = true := decide_eq_true (by omega)
  clear hA hr hu h hm hx hbd hN hq
  go_enter Tryd.func20, Tryd.ntmps20
  go_wp2_with fail
  refine (HM _ HU.out).out.mono ?_
  rintro e w1 ⟨rfl, hb⟩
  have HA1 := Lib.hid (Below.next HA.out hb)
  have hr1 := HR.out.next hb
  have d0 := hr1.c0
  have d1 := hr1.c1
  have d2 := hr1.c2
  have c0 := HC0.out _ HA1.out
  have HX1 := Lib.hid (HX.out.next HA1.out)
  have HR1 := Lib.hid hr1
  clear hb HM hr1
  go_wp2_with fail
  go_quiet (fail)
  revert nq
  intro n1
  have HX1 := Lib.hid (HX1.out.asit (w' := w1.drewN n1) rfl)
  have HA1 : Hid (Below w.heap.size w (w1.drewN n1)) := Lib.hid (belN HA1.out n1)
  have HR1 : Hid (Rb (w1.drewN n1) w.heap.size o n a len cap) := HR1
  have d0 := HR1.out.c0
  have d1 := HR1.out.c1
  have d2 := HR1.out.c2
  have c0 := HC0.out _ HA1.out
  generalize w1.drewN n1 = w1 at *
  go_wp2_with fail
  go_quiet (first | (go_at_call 45; refine Calls.quiet_of_same (HL _ ?_).out; exact HX1.out.asit rfl))
  revert nq
  intro n1
  have HX1 := Lib.hid (HX1.out.asit (w' := w1.drewN n1) rfl)
  have HA1 : Hid (Below w.heap.size w (w1.drewN n1)) := Lib.hid (belN HA1.out n1)
  have HR1 : Hid (Rb (w1.drewN n1) w.heap.size o n a len cap) := HR1
  have d0 := HR1.out.c0
  have d1 := HR1.out.c1
  have d2 := HR1.out.c2
  have c0 := HC0.out _ HA1.out
  generalize w1.drewN n1 = w1 at *
  go_wp2
  go_ret
  exact ⟨rfl, HA1.out⟩
set_option maxHeartbeats 2000000 in
theorem cd_10 (hn : L.length ≤ 1000) (o n : Int) (a : Option Addr) (len cap : Nat) (us : List Up) (w : World) (hu : IsUs w a len us) (h : Cx 78 Pd B w b F c L) (hm : mayR o n us = 0) (hq : ¬ c < o ∧ ¬ n ≤ lastL o L ∧ lastL o L + 1 < n) :
    Calls Tryd.prog 20 #[.pointer (some ⟨b, 0, none⟩), .agg #[.int .i64 o, .int .i64 n, .slice a len cap]] w fun e w' => e = .returned (.int .i64 10) ∧ Below w.heap.size w w' := by
  have hA := Joins.below_alloc1 w (.cells #[.int .i64 o, .int .i64 n, .slice a len cap] 43)
  have hr := Rb.new w o n a len cap
  have d0 := hr.c0
  have d1 := hr.c1
  have d2 := hr.c2
  have HM := fun w hu => Lib.hid (docmay_any o n a len cap us w hu)
  rw [hm] at HM
  have HU := Lib.hid (isUs_below hu hA)
  have HA := Lib.hid hA
  have HR := Lib.hid hr
  have HX := Lib.hid h
  have HL := fun w h => Lib.hid (dlast_any (B := B) (b := b) (F := F) (c := c) (L := L) o hn w h)
  have HC0 : Hid (∀ W, Below w.heap.size w W → W.cell? ⟨b, 0, none⟩ = some (.int .i64 c)) := Lib.hid fun W hW => by
    obtain ⟨cs, v, S, rs, hj, hp, _⟩ := h
    exact (hj.next hW).c 0 _ hp.2.1
  have hbd := h.good.bound o
  obtain ⟨x, hx⟩ : ∃ x, lastL o L = x := ⟨_, rfl⟩
  rw [hx] at HL hbd hq
  obtain ⟨N, hN⟩ : ∃ N, x + 1 = N := ⟨_, rfl⟩
  have hwr : IntKind.i64.wrap (x + 1) = N := by
    rw [hN]
    exact i64_id (by omega) (by omega)
  rw [hN] at hq
  have q1 : decide (c < o) = false := decide_eq_false (by omega)
  have q2 : decide (n ≤ x) = false := decide_eq_false (by omega)
  have q3 : decide (N < n) = true := decide_eq_true (by omega)
  clear hA hr hu h hm hx hbd hN hq
  go_enter Tryd.func20, Tryd.ntmps20
  go_wp2_with fail
  refine (HM _ HU.out).out.mono ?_
  rintro e w1 ⟨rfl, hb⟩
  have HA1 := Lib.hid (Below.next HA.out hb)
  have hr1 := HR.out.next hb
  have d0 := hr1.c0
  have d1 := hr1.c1
  have d2 := hr1.c2
  have c0 := HC0.out _ HA1.out
  have HX1 := Lib.hid (HX.out.next HA1.out)
  have HR1 := Lib.hid hr1
  clear hb HM hr1
  go_wp2_with fail
  go_quiet (fail)
  revert nq
  intro n1
  have HX1 := Lib.hid (HX1.out.asit (w' := w1.drewN n1) rfl)
  have HA1 : Hid (Below w.heap.size w (w1.drewN n1)) := Lib.hid (belN HA1.out n1)
  have HR1 : Hid (Rb (w1.drewN n1) w.heap.size o n a len cap) := HR1
  have d0 := HR1.out.c0
  have d1 := HR1.out.c1
  have d2 := HR1.out.c2
  have c0 := HC0.out _ HA1.out
  generalize w1.drewN n1 = w1 at *
  go_wp2_with fail
  go_quiet (first | (go_at_call 45; refine Calls.quiet_of_same (HL _ ?_).out; exact HX1.out.asit rfl))
  revert nq
  intro n1
  have HX1 := Lib.hid (HX1.out.asit (w' := w1.drewN n1) rfl)
  have HA1 : Hid (Below w.heap.size w (w1.drewN n1)) := Lib.hid (belN HA1.out n1)
  have HR1 : Hid (Rb (w1.drewN n1) w.heap.size o n a len cap) := HR1
  have d0 := HR1.out.c0
  have d1 := HR1.out.c1
  have d2 := HR1.out.c2
  have c0 := HC0.out _ HA1.out
  generalize w1.drewN n1 = w1 at *
  go_wp2_with fail
  go_quiet (first | (go_at_call 45; refine Calls.quiet_of_same (HL _ ?_).out; exact HX1.out.asit rfl))
  revert nq
  intro n1
  have HX1 := Lib.hid (HX1.out.asit (w' := w1.drewN n1) rfl)
  have HA1 : Hid (Below w.heap.size w (w1.drewN n1)) := Lib.hid (belN HA1.out n1)
  have HR1 : Hid (Rb (w1.drewN n1) w.heap.size o n a len cap) := HR1
  have d0 := HR1.out.c0
  have d1 := HR1.out.c1
  have d2 := HR1.out.c2
  have c0 := HC0.out _ HA1.out
  generalize w1.drewN n1 = w1 at *
  go_wp2
  go_ret
  exact ⟨rfl, HA1.out⟩
theorem cd_no (hn : L.length ≤ 1000) (o n : Int) (a : Option Addr) (len cap : Nat) (us : List Up) (he : ¬ comE c L (o, n, us) = 0) (w : World) (hu : IsUs w a len us) (h : Cx 78 Pd B w b F c L) :
    Calls Tryd.prog 20 #[.pointer (some ⟨b, 0, none⟩), .agg #[.int .i64 o, .int .i64 n, .slice a len cap]] w fun e w' => e = .returned (.int .i64 (comE c L (o, n, us))) ∧ Below w.heap.size w w' := by
  have hbd := h.good.bound o
  by_cases hm : mayR o n us = 0
  · by_cases h1 : c < o
    · have e : comE c L (o, n, us) = 11 := by unfold comE; rw [if_pos hm, if_pos h1]
      rw [e]
      exact cd_11 hn o n a len cap us w hu h hm ⟨h1, by omega⟩
    · by_cases h2 : n ≤ lastL o L
      · have e : comE c L (o, n, us) = 12 := by unfold comE; rw [if_pos hm, if_neg h1, if_pos h2]
        rw [e]
        exact cd_12 hn o n a len cap us w hu h hm ⟨h1, h2, by omega⟩
      · by_cases h3 : lastL o L + 1 < n
        · have e : comE c L (o, n, us) = 10 := by unfold comE; rw [if_pos hm, if_neg h1, if_neg h2, if_pos h3]
          rw [e]
          exact cd_10 hn o n a len cap us w hu h hm ⟨h1, h2, h3⟩
        · have e : comE c L (o, n, us) = 0 := by unfold comE; rw [if_pos hm, if_neg h1, if_neg h2, if_neg h3]
          exact absurd e he
  · have e : comE c L (o, n, us) = mayR o n us := if_neg hm
    rw [e]
    exact cd_err o n a len cap us w hu hm
end
end Go.Proofs.YtjmkdgjdemndaaaDoor
