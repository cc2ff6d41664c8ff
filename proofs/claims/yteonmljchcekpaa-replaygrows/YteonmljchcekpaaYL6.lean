/- The walk of ReplayGrows. -/
import Derived.Test.YteonmljchcekpaaYL5
import Derived.Deep.CutRange
namespace Go.Proofs.Yteonmljchcekpaa
open Go Go.RowKit Go.Maps Go.Sort
set_option maxRecDepth 20000
theorem infoR : ∃ i z, Try.prog.info? 45 = some i ∧ i.zero = some z ∧ i.size = 3 ∧ i.bytes = 40 ∧ z.cells.size = 3 := by
  have h1 : (Try.prog.info? 45).map (fun i => (i.size, i.bytes)) = some (3, 40) := by kernel_rfl
  have h2 : ((Try.prog.info? 45).bind (·.zero)).map (fun z => z.cells.size) = some 3 := by kernel_rfl
  cases h : Try.prog.info? 45 with
  | none => rw [h] at h1; cases h1
  | some i =>
    rw [h] at h1 h2
    simp at h1 h2
    obtain ⟨z, hz, hs⟩ := h2
    exact ⟨i, z, rfl, hz, h1.1, h1.2, hs⟩
/-- append, of rows as long as may be. -/
theorem run_appRb (w : World) (ty : TypeId) (B : Nat) (v : Value) (l : List Rn) (hrow : RowR B w v l) (ax : Option Addr) (len cx : Nat) (us : List Rn) (hu : RsAt w ax len us) (hc : len ≤ cx) (hn : ax = none → cx = 0) (hb : (l.length + len) * 40 ≤ 140737488355328) (hB : B ≤ w.heap.size) :
    ∃ a' c' w', (Builtin.append_ #[23, 23] ty #[v, .slice ax len cx]).run Try.prog w = .ok (.slice a' (l.length + len) c') w' ∧ RowR B w' (.slice a' (l.length + len) c') (l ++ us) ∧ w.grownBy w' v.ownBlock := by
  obtain ⟨i, z, hi, hz, hs, hby, hzs⟩ := infoR
  have hr : ∃ v' w', (Builtin.append_ #[23, 23] ty #[v, .slice ax len cx]).run Try.prog w = .ok v' w' ∧ RowR B w' v' (l ++ us) ∧ w.grownBy w' v.ownBlock := by
    cases ax with
    | none =>
      obtain rfl := hn rfl
      obtain rfl : len = 0 := by omega
      obtain rfl : us = [] := List.eq_nil_of_length_eq_zero hu.size
      exact ⟨v, w, run_append_owned_none w B _ ty _ i 3 Try.underlying23 hi v l.length (flR l) hrow, by simpa using hrow, World.grownBy.refl _ _⟩
    | some ad =>
      obtain ⟨v', w', r1, r2, r3, _, _⟩ := run_append_own_at (P := Try.prog) w B _ ty _ i z 3 40 Try.underlying23 hi hz hs hby hzs (by decide) v l.length (flR l) hrow ad len cx (flR us) (by rw [flR_len, hu.size]) (rsAt_news hu) (flR_one us) (by unfold maxLen; omega) hb hB
      refine ⟨v', w', r1, ?_, r3⟩
      unfold RowR
      rw [List.length_append, hu.size, flR_app]
      exact r2
  obtain ⟨v', w', h1, h2, h3⟩ := hr
  obtain ⟨a', c', e, _⟩ := h2.is
  rw [List.length_append, hu.size] at e
  subst e
  exact ⟨a', c', w', h1, h2, h3⟩
theorem step_appRm {ops : Array Oper} {o : Oper} {a : Act} {K : Act → World → Prop} {Q : Exit → Act → World → Prop} {E : Prop} {w : World} (hw : Region.wanted o (yielded ops a.tmps) = true) (s x : Operand)
    (ho : o.op = .call { callee := .builtin .append, args := #[s, x], argTypes := #[23, 23] })
    (B : Nat) (v : Value) (l : List Rn) (n : Nat) (hln : l.length = n) (hs : a.eval s = v) (hrow : RowR B w v l) (ax : Option Addr) (len cx : Nat) (hx : a.eval x = .slice ax len cx) (us : List Rn) (hu : RsAt w ax len us) (hc : len ≤ cx) (hn : ax = none → cx = 0) (hb : (n + len) * 40 ≤ 140737488355328) (hB : B ≤ w.heap.size)
    (h : ∀ a' c' w', RowR B w' (.slice a' (n + len) c') (l ++ us) → w.grownBy w' v.ownBlock → K (a.put o.dst (.slice a' (n + len) c')) w') :
    if Region.wanted o (yielded ops a.tmps) = true then Oper.wp Try.prog o a w K Q else E := by
  subst hln
  rw [if_pos hw]
  obtain ⟨a', c', w', hr, h2, h3⟩ := run_appRb w o.type B v l hrow ax len cx us hu hc hn hb hB
  unfold Oper.wp execOp
  simp only [ho, resolve, invoke, builtin, Sem.run_bind, Sem.run_pure, Result.andThen_ok, List.map_toArray, List.map_cons, List.map_nil, hs, hx, hr]
  exact h a' c' w' h2 h3
theorem step_appR0 {ops : Array Oper} {o : Oper} {a : Act} {K : Act → World → Prop} {Q : Exit → Act → World → Prop} {E : Prop} {w : World} (hw : Region.wanted o (yielded ops a.tmps) = true) (s x : Operand)
    (ho : o.op = .call { callee := .builtin .append, args := #[s, x], argTypes := #[23, 23] })
    (B : Nat) (v : Value) (hs : a.eval s = v) (hrow : RowR B w v []) (ax : Option Addr) (len cx : Nat) (hx : a.eval x = .slice ax len cx) (us : List Rn) (hu : RsAt w ax len us) (hc : len ≤ cx) (hn : ax = none → cx = 0) (hb : len * 40 ≤ 140737488355328) (hB : B ≤ w.heap.size)
    (h : ∀ a' c' w', RowR B w' (.slice a' len c') us → w.grownBy w' v.ownBlock → K (a.put o.dst (.slice a' len c')) w') :
    if Region.wanted o (yielded ops a.tmps) = true then Oper.wp Try.prog o a w K Q else E := by
  refine step_appRm hw s x ho B v [] 0 rfl hs hrow ax len cx hx us hu hc hn (by omega) hB ?_
  intro a' c' w' h1 h2
  simp only [Nat.zero_add, List.nil_append] at h1 ⊢
  exact h a' c' w' h1 h2
theorem RowR.drew {B w v l} (h : RowR B w v l) : RowR B w.drew v l := h
theorem RsAt.drew {w : World} {a : Option Addr} {len : Nat} {rs : List Rn} (h : RsAt w a len rs) : RsAt w.drew a len rs :=
  ⟨h.size, fun h0 => by obtain ⟨b, off, e, hf⟩ := h.lies h0; exact ⟨b, off, e, ⟨hf.o, hf.n, hf.u⟩⟩⟩
theorem rowR_new2 (w : World) (o : Obj) : RowR w.heap.size ((w.alloc o).alloc (.cells #[] 45)) (.slice (some ⟨w.heap.size + 1, 0, none⟩) 0 0) [] := by
  have h := World.ownsRow_lit (base := w.heap.size) (e := 45) (size := 3) (w.alloc o) #[] 0 (by simp) (Nat.zero_le _) rfl
  rw [size_alloc] at h
  exact h
theorem rs_kept {w w' : World} {g : Nat} {len : Nat} {rs : List Rn} {row : Option Nat} (h : RsAt w (some ⟨g, 0, none⟩) len rs) (hg : w.grownBy w' row) (hne : some g ≠ row) : RsAt w' (some ⟨g, 0, none⟩) len rs := by
  refine ⟨h.size, fun h0 => ?_⟩
  obtain ⟨b, off, e, hf⟩ := h.lies h0
  simp only [Option.some.injEq, Addr.mk.injEq, and_true] at e
  obtain ⟨rfl, rfl⟩ := e
  exact ⟨g, 0, rfl, ⟨fun i hi => hg.cell (hf.o i hi) hne, fun i hi => hg.cell (hf.n i hi) hne, fun i hi => hg.cell (hf.u i hi) hne⟩⟩
theorem gr_box (w : World) (r : Rn) : (w.alloc (.cells #[.int .i64 r.o, .int .i64 r.n, .slice r.a r.len r.cap] 45)).drew.cell? ⟨w.heap.size, 0, none⟩ = some (.int .i64 r.o) ∧ (w.alloc (.cells #[.int .i64 r.o, .int .i64 r.n, .slice r.a r.len r.cap] 45)).drew.cell? ⟨w.heap.size, 1, none⟩ = some (.int .i64 r.n) ∧ (w.alloc (.cells #[.int .i64 r.o, .int .i64 r.n, .slice r.a r.len r.cap] 45)).drew.cell? ⟨w.heap.size, 2, none⟩ = some (.slice r.a r.len r.cap) := by
  have h := Rb.new w r.o r.n r.a r.len r.cap
  exact ⟨h.c0, h.c1, h.c2⟩
theorem gr_start {w w1 : World} {r : Rn} (hb : Below (w.alloc (.cells #[.int .i64 r.o, .int .i64 r.n, .slice r.a r.len r.cap] 45)).drew.heap.size (w.alloc (.cells #[.int .i64 r.o, .int .i64 r.n, .slice r.a r.len r.cap] 45)).drew w1) : Rb w1 w.heap.size r.o r.n r.a r.len r.cap ∧ Below w.heap.size w w1 := by
  have h := Rb.new w r.o r.n r.a r.len r.cap
  have hb2 : Below (w.alloc (.cells #[.int .i64 r.o, .int .i64 r.n, .slice r.a r.len r.cap] 45)).heap.size (w.alloc (.cells #[.int .i64 r.o, .int .i64 r.n, .slice r.a r.len r.cap] 45)) w1 := ⟨hb.os, hb.tape, hb.output, hb.size, hb.block⟩
  exact ⟨h.next hb2, Below.next (Joins.below_alloc1 _ _) hb2⟩
theorem box_all {w1 : World} {X : Nat} {r : Rn} (h : Rb w1 X r.o r.n r.a r.len r.cap) : ∀ W, Below w1.heap.size w1 W → W.cell? ⟨X, 0, none⟩ = some (.int .i64 r.o) ∧ W.cell? ⟨X, 1, none⟩ = some (.int .i64 r.n) ∧ W.cell? ⟨X, 2, none⟩ = some (.slice r.a r.len r.cap) := fun _ hW =>
  ⟨(h.next hW).c0, (h.next hW).c1, (h.next hW).c2⟩
theorem gr_is {w w1 w5 : World} {ar a5 : Option Addr} {lr c5 : Nat} {rs : List Rn} {r : Rn} (hr : IsRs w ar lr rs) (hu : Ru w r) (hb : Below w.heap.size w w1) (h5 : RowR w1.heap.size w5 (.slice a5 (lr + 1) c5) (rs ++ [r])) (hb5 : Below w1.heap.size w1 w5) : IsRs w5 a5 (lr + 1) (rs ++ [r]) := by
  have hbb := Below.next hb hb5
  refine (h5.isR (by rw [List.length_append, hr.size]; rfl) fun x hx => ?_).1
  rcases List.mem_append.1 hx with hx | hx
  · exact each_below hr hbb x hx
  · obtain rfl := List.mem_singleton.1 hx
    exact hu.below hbb
theorem gr_do {w wr w5 : World} {m : Nat} {ro rnn : Int} {ra : Option Addr} {rl rc : Nat} {o : Obj} (h : Rb wr w.heap.size ro rnn ra rl rc ∧ Below w.heap.size w wr) (hm : w.heap.size < m) (hg : (wr.alloc o).grownBy w5 (some m)) : Rb w5 w.heap.size ro rnn ra rl rc ∧ Below w.heap.size w w5 :=
  ⟨(h.1.alloc o).kept hg (fun e => by simp only [Option.some.injEq] at e; omega), bgrown (h.2.alloc h.2.size o) hg (Nat.le_trans h.2.size (Joins.below_alloc1 _ _).size) (by omega)⟩
theorem gr_pl {rs : List Rn} {r : Rn} (h : Pl [] (rs ++ [r])) : Pl [] rs := by
  have h1 := h.len
  have h2 := h.lr
  rw [List.append_nil, flatR_snoc, List.length_append] at h1
  rw [List.length_append] at h2
  exact ⟨fun u hu => h.sh u (by rw [List.append_nil] at hu; rw [List.append_nil, flatR_snoc]; exact List.mem_append_left _ hu), by rw [List.append_nil]; omega, by omega⟩
set_option maxHeartbeats 8000000 in
theorem walkGrows (ar : Option Addr) (lr cr : Nat) (rs : List Rn) (r : Rn) (key : ByteArray) (hcr : lr ≤ cr) (hnr : ar = none → cr = 0) (hlb : lr * 40 ≤ 140737488351232) (w : World) (hr : IsRs w ar lr rs) (hru : Ru w r) :
    Calls Try.prog 8 #[.slice ar lr cr, .agg #[.int .i64 r.o, .int .i64 r.n, .slice r.a r.len r.cap], .string key] w fun e w' => e = .returned (.bool true) ∧ Below w.heap.size w w' := by
  have HR := Lib.hid hr
  have HRU := Lib.hid hru
  have HCR := Lib.hid hcr
  have HNR := Lib.hid hnr
  have hrs := hr.size
  obtain ⟨ro, rnn, ra, rl, rc, ru⟩ := r
  simp only at hru ⊢
  have HS0 := Lib.hid (gr_box w ⟨ro, rnn, ra, rl, rc, ru⟩)
  by_cases hg : g8 [] (rs ++ [⟨ro, rnn, ra, rl, rc, ru⟩])
  · have HG := fun a c w hr => Lib.hid (great8_yes none 0 0 [] a (lr + 1) c (rs ++ [⟨ro, rnn, ra, rl, rc, ru⟩]) hg w (isUs_nil w) hr)
    clear hg hr hru hcr hnr
    go_enter Try.func8, Try.ntmps8
    go_wp2_with fail
    go_cut [26] from 11 to 26 (fun v26 wx => v26 = .bool true ∧ Rb wx w.heap.size ro rnn ra rl rc ∧ Below w.heap.size w wx)
    case first =>
      refine wp_region_held_drew (S := (fun w' => w'.cell? ⟨w.heap.size, 0, none⟩ = some (.int .i64 ro) ∧ w'.cell? ⟨w.heap.size, 1, none⟩ = some (.int .i64 rnn) ∧ w'.cell? ⟨w.heap.size, 2, none⟩ = some (.slice ra rl rc))) (by kernel_rfl) ?_ (fun hH0 => ?_)
      · exact HS0.out
      refine wpAnyH_ready (rs := [0]) (by kernel_rfl) (by simp) ?_
      refine AllReadyH.cons (o := { dst := some 11, op := Op.call { callee := Callee.value (Operand.func 9), args := #[], argTypes := #[] }, type := 4, pos := "law.go:102", after := #[], guard := none }) rfl (fun K hK => ?_) ?_
      · go_simp
        refine (awake_yes _).mono ?_
        rintro e w1 ⟨rfl, hb⟩
        have hbw := gr_start (r := ⟨ro, rnn, ra, rl, rc, ru⟩) hb
        have HSW := Lib.hid (box_all hbw.1)
        have HRB := Lib.hid hbw.1
        have HRW := Lib.hid (rsAt_below HR.out.at hbw.2)
        have HBW := Lib.hid hbw.2
        have hw1 := hbw.2.size
        clear hb hbw
        go_wp2_with fail
        refine hK.out _ _ ?_ (fun hH1 => ?_)
        · exact HSW.out _ (Below.refl _ _)
        clear hK K hH0
        try simp only [Act.put, List.setIfInBounds_toArray, List.set_cons_zero, List.set_cons_succ]
        refine wpAnyH_take (i := 1) (oi := { dst := some 12, op := Op.unOp UnOp.not 4 (Operand.tmp 11), type := 4, pos := "law.go:102", after := #[{ on := 0, ground := Ground.data }], guard := none }) (v := ?_) rfl (by kernel_rfl) (by kernel_rfl) (by kernel_rfl) (fun _ _ _ h => h) (Or.inl ⟨by rfl, ?_⟩) (by assumption) ?_
        rotate_left
        · intro w hSw
          try dsimp only at hSw
          go_simp
          all_goals with_reducible rfl
        try simp only [Act.put, List.setIfInBounds_toArray, List.set_cons_zero, List.set_cons_succ]
        refine wpAnyH_take (i := 2) (oi := { dst := some 13, op := Op.move (Operand.tmp 12), type := 4, pos := "law.go:102", after := #[{ on := 1, ground := Ground.data }, { on := 0, ground := Ground.chain }], guard := none }) (v := ?_) rfl (by kernel_rfl) (by kernel_rfl) (by kernel_rfl) (fun _ _ _ h => h) (Or.inl ⟨by rfl, ?_⟩) (by assumption) ?_
        rotate_left
        · intro w hSw
          try dsimp only at hSw
          go_simp
          all_goals with_reducible rfl
        try simp only [Act.put, List.setIfInBounds_toArray, List.set_cons_zero, List.set_cons_succ]
        refine wpAnyH_take (i := 4) (oi := { dst := some 15, op := Op.move (Operand.tmp 0), type := 23, pos := "law.go:102", after := #[{ on := 2, ground := Ground.guard }], guard := some (2, false) }) (v := ?_) rfl (by kernel_rfl) (by kernel_rfl) (by kernel_rfl) (fun _ _ _ h => h) (Or.inl ⟨by rfl, ?_⟩) (by assumption) ?_
        rotate_left
        · intro w hSw
          try dsimp only at hSw
          go_simp
          all_goals with_reducible rfl
        try simp only [Act.put, List.setIfInBounds_toArray, List.set_cons_zero, List.set_cons_succ]
        refine wpAnyH_take (i := 6) (oi := { dst := some 17, op := Op.load 45 (Operand.tmp 4), type := 45, pos := "law.go:102", after := #[{ on := 2, ground := Ground.guard }], guard := some (2, false) }) (v := ?_) rfl (by kernel_rfl) (by kernel_rfl) (by kernel_rfl) (fun _ _ _ h => h) (Or.inl ⟨by rfl, ?_⟩) (by assumption) ?_
        rotate_left
        · intro w hSw
          try dsimp only at hSw
          go_simp
          all_goals with_reducible rfl
        try simp only [Act.put, List.setIfInBounds_toArray, List.set_cons_zero, List.set_cons_succ]
        refine wpAnyH_ready (rs := [3, 7]) (by kernel_rfl) (by simp) ?_
        refine AllReadyH.cons (o := { dst := some 14, op := Op.buildSlice 23 0 #[], type := 23, pos := "law.go:102", after := #[{ on := 2, ground := Ground.guard }], guard := some (2, false) }) rfl (fun K hK => ?_) ?_
        · go_simp
          refine hK.out _ _ ?_ (fun hH2 => ?_)
          · exact HSW.out _ (Joins.below_alloc1 _ _)
          clear hK K hH1
          try simp only [Act.put, List.setIfInBounds_toArray, List.set_cons_zero, List.set_cons_succ]
          refine wpAnyH_ready (rs := [5, 7]) (by kernel_rfl) (by simp) ?_
          refine AllReadyH.cons (o := { dst := some 16, op := Op.call { callee := Callee.builtin Builtin.append, args := #[Operand.tmp 14, Operand.tmp 15], argTypes := #[23, 23] }, type := 23, pos := "law.go:102", after := #[{ on := 3, ground := Ground.data }, { on := 4, ground := Ground.data }, { on := 2, ground := Ground.chain }, { on := 2, ground := Ground.guard }], guard := some (2, false) }) rfl (fun K hK => ?_) ?_
          · refine step_appR0 (by rfl) (.tmp 14) (.tmp 15) (by rfl) w1.heap.size _ (by rfl) (rowR_new w1) ar lr cr (by rfl) rs (rsAt_below HRW.out (Joins.below_alloc1 w1 _)) HCR.out HNR.out (by omega) (Joins.below_alloc1 w1 _).size ?_
            intro a3 c3 w3 hr3 hg3
            have HB3 := Lib.hid (belR (rowR_new w1) (Joins.below_alloc1 w1 _) hg3 (Joins.below_alloc1 w1 _).size)
            have HR3 := Lib.hid hr3
            clear hr3 hg3
            refine hK.out _ _ ?_ (fun hH3 => ?_)
            · exact HSW.out _ HB3.out
            clear hK K hH2
            try simp only [Act.put, List.setIfInBounds_toArray, List.set_cons_zero, List.set_cons_succ]
            refine wpAnyH_ready (rs := [7]) (by kernel_rfl) (by simp) ?_
            refine AllReadyH.cons (o := { dst := some 18, op := Op.buildSlice 23 1 #[(0, Operand.tmp 17)], type := 23, pos := "law.go:102", after := #[{ on := 6, ground := Ground.data }, { on := 2, ground := Ground.guard }], guard := some (2, false) }) rfl (fun K hK => ?_) ?_
            · go_simp
              refine hK.out _ _ ?_ (fun hH4 => ?_)
              · exact HSW.out _ (HB3.out.alloc HB3.out.size _)
              clear hK K hH3
              try simp only [Act.put, List.setIfInBounds_toArray, List.set_cons_zero, List.set_cons_succ]
              refine wpAnyH_ready (rs := [8]) (by kernel_rfl) (by simp) ?_
              refine AllReadyH.cons (o := { dst := some 19, op := Op.call { callee := Callee.builtin Builtin.append, args := #[Operand.tmp 16, Operand.tmp 18], argTypes := #[23, 23] }, type := 23, pos := "law.go:102", after := #[{ on := 5, ground := Ground.data }, { on := 7, ground := Ground.data }, { on := 5, ground := Ground.chain }, { on := 2, ground := Ground.guard }], guard := some (2, false) }) rfl (fun K hK => ?_) ?_
              · refine step_appRm (by rfl) (.tmp 16) (.tmp 18) (by rfl) w1.heap.size _ rs lr hrs (by rfl) (HR3.out.alloc (.cells #[.int .i64 ro, .int .i64 rnn, .slice ra rl rc] 45)) _ 1 1 (by rfl) [⟨ro, rnn, ra, rl, rc, ru⟩] (rsAt_one w3 ⟨ro, rnn, ra, rl, rc, ru⟩) (Nat.le_refl _) (fun e => by cases e) (by omega) (Nat.le_trans HB3.out.size (Joins.below_alloc1 _ _).size) ?_
                intro a5 c5 w5 hr5 hg5
                have HB5 := Lib.hid (belR (HR3.out.alloc (.cells #[.int .i64 ro, .int .i64 rnn, .slice ra rl rc] 45)) (HB3.out.alloc HB3.out.size (.cells #[.int .i64 ro, .int .i64 rnn, .slice ra rl rc] 45)) hg5 (Nat.le_trans HB3.out.size (Joins.below_alloc1 _ _).size))
                have HR5 := Lib.hid hr5
                clear hr5 hg5
                refine hK.out _ _ ?_ (fun hH5 => ?_)
                · exact HSW.out _ HB5.out
                clear hK K hH4
                try simp only [Act.put, List.setIfInBounds_toArray, List.set_cons_zero, List.set_cons_succ]
                refine wpAnyH_ready (rs := [9]) (by kernel_rfl) (by simp) ?_
                refine AllReadyH.cons (o := { dst := some 20, op := Op.call { callee := Callee.value (Operand.func 10), args := #[Operand.const (Value.slice none 0 0), Operand.tmp 19], argTypes := #[22, 23] }, type := 4, pos := "law.go:102", after := #[{ on := 8, ground := Ground.data }, { on := 8, ground := Ground.chain }, { on := 2, ground := Ground.guard }], guard := some (2, false) }) rfl (fun K hK => ?_) ?_
                · go_simp
                  refine (HG _ _ _ (gr_is HR.out HRU.out HBW.out HR5.out HB5.out)).out.mono ?_
                  rintro e w6 ⟨rfl, hb⟩
                  have HB6 := Lib.hid (Below.next HB5.out hb)
                  clear hb
                  go_wp2_with fail
                  refine hK.out _ _ ?_ (fun hH6 => ?_)
                  · exact HSW.out _ HB6.out
                  clear hK K hH5
                  try simp only [Act.put, List.setIfInBounds_toArray, List.set_cons_zero, List.set_cons_succ]
                  refine wpAnyH_take (i := 10) (oi := { dst := some 21, op := Op.pick (Operand.tmp 13) (Operand.const (Value.bool true)) (Operand.tmp 20), type := 4, pos := "law.go:102", after := #[{ on := 2, ground := Ground.data }, { on := 9, ground := Ground.data }], guard := none }) (v := ?_) rfl (by kernel_rfl) (by kernel_rfl) (by kernel_rfl) (fun _ _ _ h => h) (Or.inl ⟨by rfl, ?_⟩) (by assumption) ?_
                  rotate_left
                  · intro w hSw
                    try dsimp only at hSw
                    go_simp
                    all_goals with_reducible rfl
                  try simp only [Act.put, List.setIfInBounds_toArray, List.set_cons_zero, List.set_cons_succ]
                  refine wpAnyH_take (i := 11) (oi := { dst := some 22, op := Op.move (Operand.tmp 21), type := 4, pos := "law.go:102", after := #[{ on := 10, ground := Ground.data }, { on := 9, ground := Ground.chain }], guard := none }) (v := ?_) rfl (by kernel_rfl) (by kernel_rfl) (by kernel_rfl) (fun _ _ _ h => h) (Or.inl ⟨by rfl, ?_⟩) (by assumption) ?_
                  rotate_left
                  · intro w hSw
                    try dsimp only at hSw
                    go_simp
                    all_goals with_reducible rfl
                  try simp only [Act.put, List.setIfInBounds_toArray, List.set_cons_zero, List.set_cons_succ]
                  refine wpAnyH_take (i := 12) (oi := { dst := some 23, op := Op.move (Operand.tmp 2), type := 9, pos := "law.go:102", after := #[{ on := 11, ground := Ground.guard }], guard := some (11, false) }) (v := undef) rfl (by kernel_rfl) (by kernel_rfl) (by kernel_rfl) (fun _ _ _ h => h) (Or.inr ⟨by rfl, rfl⟩) (by assumption) ?_
                  try simp only [Act.put, List.setIfInBounds_toArray, List.set_cons_zero, List.set_cons_succ]
                  refine wpAnyH_take (i := 13) (oi := { dst := some 24, op := Op.call { callee := Callee.builtin Builtin.len, args := #[Operand.tmp 23], argTypes := #[9] }, type := 3, pos := "law.go:102", after := #[{ on := 12, ground := Ground.data }, { on := 11, ground := Ground.guard }], guard := some (11, false) }) (v := undef) rfl (by kernel_rfl) (by kernel_rfl) (by kernel_rfl) (fun _ _ _ h => h) (Or.inr ⟨by rfl, rfl⟩) (by assumption) ?_
                  try simp only [Act.put, List.setIfInBounds_toArray, List.set_cons_zero, List.set_cons_succ]
                  refine wpAnyH_take (i := 14) (oi := { dst := some 25, op := Op.binOp BinOp.gtr 3 (Operand.tmp 24) (Operand.const (Value.int IntKind.i64 100)) 3, type := 4, pos := "law.go:102", after := #[{ on := 13, ground := Ground.data }, { on := 11, ground := Ground.guard }], guard := some (11, false) }) (v := undef) rfl (by kernel_rfl) (by kernel_rfl) (by kernel_rfl) (fun _ _ _ h => h) (Or.inr ⟨by rfl, rfl⟩) (by assumption) ?_
                  try simp only [Act.put, List.setIfInBounds_toArray, List.set_cons_zero, List.set_cons_succ]
                  refine wpAnyH_take (i := 15) (oi := { dst := some 26, op := Op.pick (Operand.tmp 22) (Operand.const (Value.bool true)) (Operand.tmp 25), type := 4, pos := "law.go:102", after := #[{ on := 11, ground := Ground.data }, { on := 14, ground := Ground.data }], guard := none }) (v := ?_) rfl (by kernel_rfl) (by kernel_rfl) (by kernel_rfl) (fun _ _ _ h => h) (Or.inl ⟨by rfl, ?_⟩) (by assumption) ?_
                  rotate_left
                  · intro w hSw
                    try dsimp only at hSw
                    go_simp
                    all_goals with_reducible rfl
                  try simp only [Act.put, List.setIfInBounds_toArray, List.set_cons_zero, List.set_cons_succ]
                  refine wpAnyH_done (by kernel_rfl) ?_ _
                  go_wp2_with fail
                  go_meet
                  case rel => exact ⟨rfl, HRB.out.next HB6.out, Below.next HBW.out HB6.out⟩
                exact AllReadyH.nil
              exact AllReadyH.nil
            exact AllReadyH.nil
          refine AllReadyH.cons (o := { dst := some 18, op := Op.buildSlice 23 1 #[(0, Operand.tmp 17)], type := 23, pos := "law.go:102", after := #[{ on := 6, ground := Ground.data }, { on := 2, ground := Ground.guard }], guard := some (2, false) }) rfl (fun K hK => ?_) ?_
          · go_simp
            refine hK.out _ _ ?_ (fun hH3 => ?_)
            · exact HSW.out _ (Joins.below_alloc2 _ _ _)
            clear hK K hH2
            try simp only [Act.put, List.setIfInBounds_toArray, List.set_cons_zero, List.set_cons_succ]
            refine wpAnyH_ready (rs := [5]) (by kernel_rfl) (by simp) ?_
            refine AllReadyH.cons (o := { dst := some 16, op := Op.call { callee := Callee.builtin Builtin.append, args := #[Operand.tmp 14, Operand.tmp 15], argTypes := #[23, 23] }, type := 23, pos := "law.go:102", after := #[{ on := 3, ground := Ground.data }, { on := 4, ground := Ground.data }, { on := 2, ground := Ground.chain }, { on := 2, ground := Ground.guard }], guard := some (2, false) }) rfl (fun K hK => ?_) ?_
            · refine step_appR0 (by rfl) (.tmp 14) (.tmp 15) (by rfl) w1.heap.size _ (by rfl) ((rowR_new w1).alloc (.cells #[.int .i64 ro, .int .i64 rnn, .slice ra rl rc] 45)) ar lr cr (by rfl) rs (rsAt_below HRW.out (Joins.below_alloc2 w1 _ _)) HCR.out HNR.out (by omega) (Joins.below_alloc2 w1 _ _).size ?_
              intro a3 c3 w3 hr3 hg3
              have HB3 := Lib.hid (belR ((rowR_new w1).alloc (.cells #[.int .i64 ro, .int .i64 rnn, .slice ra rl rc] 45)) (Joins.below_alloc2 w1 _ _) hg3 (Joins.below_alloc2 w1 _ _).size)
              have HQ : Hid (RsAt w3 (some ⟨w1.heap.size + 1, 0, none⟩) 1 [⟨ro, rnn, ra, rl, rc, ru⟩]) := Lib.hid (rs_kept (rsAt_new (w1.alloc (.cells #[] 45)) ⟨ro, rnn, ra, rl, rc, ru⟩ (size_alloc _ _)) hg3 (by simp [Value.ownBlock]))
              have HR3 := Lib.hid hr3
              clear hr3 hg3
              refine hK.out _ _ ?_ (fun hH4 => ?_)
              · exact HSW.out _ HB3.out
              clear hK K hH3
              try simp only [Act.put, List.setIfInBounds_toArray, List.set_cons_zero, List.set_cons_succ]
              refine wpAnyH_ready (rs := [8]) (by kernel_rfl) (by simp) ?_
              refine AllReadyH.cons (o := { dst := some 19, op := Op.call { callee := Callee.builtin Builtin.append, args := #[Operand.tmp 16, Operand.tmp 18], argTypes := #[23, 23] }, type := 23, pos := "law.go:102", after := #[{ on := 5, ground := Ground.data }, { on := 7, ground := Ground.data }, { on := 5, ground := Ground.chain }, { on := 2, ground := Ground.guard }], guard := some (2, false) }) rfl (fun K hK => ?_) ?_
              · refine step_appRm (by rfl) (.tmp 16) (.tmp 18) (by rfl) w1.heap.size _ rs lr hrs (by rfl) HR3.out _ 1 1 (by rfl) [⟨ro, rnn, ra, rl, rc, ru⟩] HQ.out (Nat.le_refl _) (fun e => by cases e) (by omega) HB3.out.size ?_
                intro a5 c5 w5 hr5 hg5
                have HB5 := Lib.hid (belR HR3.out HB3.out hg5 HB3.out.size)
                have HR5 := Lib.hid hr5
                clear hr5 hg5
                refine hK.out _ _ ?_ (fun hH5 => ?_)
                · exact HSW.out _ HB5.out
                clear hK K hH4
                try simp only [Act.put, List.setIfInBounds_toArray, List.set_cons_zero, List.set_cons_succ]
                refine wpAnyH_ready (rs := [9]) (by kernel_rfl) (by simp) ?_
                refine AllReadyH.cons (o := { dst := some 20, op := Op.call { callee := Callee.value (Operand.func 10), args := #[Operand.const (Value.slice none 0 0), Operand.tmp 19], argTypes := #[22, 23] }, type := 4, pos := "law.go:102", after := #[{ on := 8, ground := Ground.data }, { on := 8, ground := Ground.chain }, { on := 2, ground := Ground.guard }], guard := some (2, false) }) rfl (fun K hK => ?_) ?_
                · go_simp
                  refine (HG _ _ _ (gr_is HR.out HRU.out HBW.out HR5.out HB5.out)).out.mono ?_
                  rintro e w6 ⟨rfl, hb⟩
                  have HB6 := Lib.hid (Below.next HB5.out hb)
                  clear hb
                  go_wp2_with fail
                  refine hK.out _ _ ?_ (fun hH6 => ?_)
                  · exact HSW.out _ HB6.out
                  clear hK K hH5
                  try simp only [Act.put, List.setIfInBounds_toArray, List.set_cons_zero, List.set_cons_succ]
                  refine wpAnyH_take (i := 10) (oi := { dst := some 21, op := Op.pick (Operand.tmp 13) (Operand.const (Value.bool true)) (Operand.tmp 20), type := 4, pos := "law.go:102", after := #[{ on := 2, ground := Ground.data }, { on := 9, ground := Ground.data }], guard := none }) (v := ?_) rfl (by kernel_rfl) (by kernel_rfl) (by kernel_rfl) (fun _ _ _ h => h) (Or.inl ⟨by rfl, ?_⟩) (by assumption) ?_
                  rotate_left
                  · intro w hSw
                    try dsimp only at hSw
                    go_simp
                    all_goals with_reducible rfl
                  try simp only [Act.put, List.setIfInBounds_toArray, List.set_cons_zero, List.set_cons_succ]
                  refine wpAnyH_take (i := 11) (oi := { dst := some 22, op := Op.move (Operand.tmp 21), type := 4, pos := "law.go:102", after := #[{ on := 10, ground := Ground.data }, { on := 9, ground := Ground.chain }], guard := none }) (v := ?_) rfl (by kernel_rfl) (by kernel_rfl) (by kernel_rfl) (fun _ _ _ h => h) (Or.inl ⟨by rfl, ?_⟩) (by assumption) ?_
                  rotate_left
                  · intro w hSw
                    try dsimp only at hSw
                    go_simp
                    all_goals with_reducible rfl
                  try simp only [Act.put, List.setIfInBounds_toArray, List.set_cons_zero, List.set_cons_succ]
                  refine wpAnyH_take (i := 12) (oi := { dst := some 23, op := Op.move (Operand.tmp 2), type := 9, pos := "law.go:102", after := #[{ on := 11, ground := Ground.guard }], guard := some (11, false) }) (v := undef) rfl (by kernel_rfl) (by kernel_rfl) (by kernel_rfl) (fun _ _ _ h => h) (Or.inr ⟨by rfl, rfl⟩) (by assumption) ?_
                  try simp only [Act.put, List.setIfInBounds_toArray, List.set_cons_zero, List.set_cons_succ]
                  refine wpAnyH_take (i := 13) (oi := { dst := some 24, op := Op.call { callee := Callee.builtin Builtin.len, args := #[Operand.tmp 23], argTypes := #[9] }, type := 3, pos := "law.go:102", after := #[{ on := 12, ground := Ground.data }, { on := 11, ground := Ground.guard }], guard := some (11, false) }) (v := undef) rfl (by kernel_rfl) (by kernel_rfl) (by kernel_rfl) (fun _ _ _ h => h) (Or.inr ⟨by rfl, rfl⟩) (by assumption) ?_
                  try simp only [Act.put, List.setIfInBounds_toArray, List.set_cons_zero, List.set_cons_succ]
                  refine wpAnyH_take (i := 14) (oi := { dst := some 25, op := Op.binOp BinOp.gtr 3 (Operand.tmp 24) (Operand.const (Value.int IntKind.i64 100)) 3, type := 4, pos := "law.go:102", after := #[{ on := 13, ground := Ground.data }, { on := 11, ground := Ground.guard }], guard := some (11, false) }) (v := undef) rfl (by kernel_rfl) (by kernel_rfl) (by kernel_rfl) (fun _ _ _ h => h) (Or.inr ⟨by rfl, rfl⟩) (by assumption) ?_
                  try simp only [Act.put, List.setIfInBounds_toArray, List.set_cons_zero, List.set_cons_succ]
                  refine wpAnyH_take (i := 15) (oi := { dst := some 26, op := Op.pick (Operand.tmp 22) (Operand.const (Value.bool true)) (Operand.tmp 25), type := 4, pos := "law.go:102", after := #[{ on := 11, ground := Ground.data }, { on := 14, ground := Ground.data }], guard := none }) (v := ?_) rfl (by kernel_rfl) (by kernel_rfl) (by kernel_rfl) (fun _ _ _ h => h) (Or.inl ⟨by rfl, ?_⟩) (by assumption) ?_
                  rotate_left
                  · intro w hSw
                    try dsimp only at hSw
                    go_simp
                    all_goals with_reducible rfl
                  try simp only [Act.put, List.setIfInBounds_toArray, List.set_cons_zero, List.set_cons_succ]
                  refine wpAnyH_done (by kernel_rfl) ?_ _
                  go_wp2_with fail
                  go_meet
                  case rel => exact ⟨rfl, HRB.out.next HB6.out, Below.next HBW.out HB6.out⟩
                exact AllReadyH.nil
              exact AllReadyH.nil
            exact AllReadyH.nil
          exact AllReadyH.nil
        refine AllReadyH.cons (o := { dst := some 18, op := Op.buildSlice 23 1 #[(0, Operand.tmp 17)], type := 23, pos := "law.go:102", after := #[{ on := 6, ground := Ground.data }, { on := 2, ground := Ground.guard }], guard := some (2, false) }) rfl (fun K hK => ?_) ?_
        · go_simp
          refine hK.out _ _ ?_ (fun hH2 => ?_)
          · exact HSW.out _ (Joins.below_alloc1 _ _)
          clear hK K hH1
          try simp only [Act.put, List.setIfInBounds_toArray, List.set_cons_zero, List.set_cons_succ]
          refine wpAnyH_ready (rs := [3]) (by kernel_rfl) (by simp) ?_
          refine AllReadyH.cons (o := { dst := some 14, op := Op.buildSlice 23 0 #[], type := 23, pos := "law.go:102", after := #[{ on := 2, ground := Ground.guard }], guard := some (2, false) }) rfl (fun K hK => ?_) ?_
          · go_simp
            refine hK.out _ _ ?_ (fun hH3 => ?_)
            · exact HSW.out _ (Joins.below_alloc2 _ _ _)
            clear hK K hH2
            try simp only [Act.put, List.setIfInBounds_toArray, List.set_cons_zero, List.set_cons_succ]
            refine wpAnyH_ready (rs := [5]) (by kernel_rfl) (by simp) ?_
            refine AllReadyH.cons (o := { dst := some 16, op := Op.call { callee := Callee.builtin Builtin.append, args := #[Operand.tmp 14, Operand.tmp 15], argTypes := #[23, 23] }, type := 23, pos := "law.go:102", after := #[{ on := 3, ground := Ground.data }, { on := 4, ground := Ground.data }, { on := 2, ground := Ground.chain }, { on := 2, ground := Ground.guard }], guard := some (2, false) }) rfl (fun K hK => ?_) ?_
            · refine step_appR0 (by rfl) (.tmp 14) (.tmp 15) (by rfl) w1.heap.size _ (by rfl) (rowR_new2 w1 (.cells #[.int .i64 ro, .int .i64 rnn, .slice ra rl rc] 45)) ar lr cr (by rfl) rs (rsAt_below HRW.out (Joins.below_alloc2 w1 _ _)) HCR.out HNR.out (by omega) (Joins.below_alloc2 w1 _ _).size ?_
              intro a3 c3 w3 hr3 hg3
              have HB3 := Lib.hid (belR (rowR_new2 w1 (.cells #[.int .i64 ro, .int .i64 rnn, .slice ra rl rc] 45)) (Joins.below_alloc2 w1 _ _) hg3 (Joins.below_alloc2 w1 _ _).size)
              have HQ : Hid (RsAt w3 (some ⟨w1.heap.size, 0, none⟩) 1 [⟨ro, rnn, ra, rl, rc, ru⟩]) := Lib.hid (rs_kept (rsAt_below (rsAt_one w1 ⟨ro, rnn, ra, rl, rc, ru⟩) (Joins.below_alloc1 _ (.cells #[] 45))) hg3 (by simp [Value.ownBlock]))
              have HR3 := Lib.hid hr3
              clear hr3 hg3
              refine hK.out _ _ ?_ (fun hH4 => ?_)
              · exact HSW.out _ HB3.out
              clear hK K hH3
              try simp only [Act.put, List.setIfInBounds_toArray, List.set_cons_zero, List.set_cons_succ]
              refine wpAnyH_ready (rs := [8]) (by kernel_rfl) (by simp) ?_
              refine AllReadyH.cons (o := { dst := some 19, op := Op.call { callee := Callee.builtin Builtin.append, args := #[Operand.tmp 16, Operand.tmp 18], argTypes := #[23, 23] }, type := 23, pos := "law.go:102", after := #[{ on := 5, ground := Ground.data }, { on := 7, ground := Ground.data }, { on := 5, ground := Ground.chain }, { on := 2, ground := Ground.guard }], guard := some (2, false) }) rfl (fun K hK => ?_) ?_
              · refine step_appRm (by rfl) (.tmp 16) (.tmp 18) (by rfl) w1.heap.size _ rs lr hrs (by rfl) HR3.out _ 1 1 (by rfl) [⟨ro, rnn, ra, rl, rc, ru⟩] HQ.out (Nat.le_refl _) (fun e => by cases e) (by omega) HB3.out.size ?_
                intro a5 c5 w5 hr5 hg5
                have HB5 := Lib.hid (belR HR3.out HB3.out hg5 HB3.out.size)
                have HR5 := Lib.hid hr5
                clear hr5 hg5
                refine hK.out _ _ ?_ (fun hH5 => ?_)
                · exact HSW.out _ HB5.out
                clear hK K hH4
                try simp only [Act.put, List.setIfInBounds_toArray, List.set_cons_zero, List.set_cons_succ]
                refine wpAnyH_ready (rs := [9]) (by kernel_rfl) (by simp) ?_
                refine AllReadyH.cons (o := { dst := some 20, op := Op.call { callee := Callee.value (Operand.func 10), args := #[Operand.const (Value.slice none 0 0), Operand.tmp 19], argTypes := #[22, 23] }, type := 4, pos := "law.go:102", after := #[{ on := 8, ground := Ground.data }, { on := 8, ground := Ground.chain }, { on := 2, ground := Ground.guard }], guard := some (2, false) }) rfl (fun K hK => ?_) ?_
                · go_simp
                  refine (HG _ _ _ (gr_is HR.out HRU.out HBW.out HR5.out HB5.out)).out.mono ?_
                  rintro e w6 ⟨rfl, hb⟩
                  have HB6 := Lib.hid (Below.next HB5.out hb)
                  clear hb
                  go_wp2_with fail
                  refine hK.out _ _ ?_ (fun hH6 => ?_)
                  · exact HSW.out _ HB6.out
                  clear hK K hH5
                  try simp only [Act.put, List.setIfInBounds_toArray, List.set_cons_zero, List.set_cons_succ]
                  refine wpAnyH_take (i := 10) (oi := { dst := some 21, op := Op.pick (Operand.tmp 13) (Operand.const (Value.bool true)) (Operand.tmp 20), type := 4, pos := "law.go:102", after := #[{ on := 2, ground := Ground.data }, { on := 9, ground := Ground.data }], guard := none }) (v := ?_) rfl (by kernel_rfl) (by kernel_rfl) (by kernel_rfl) (fun _ _ _ h => h) (Or.inl ⟨by rfl, ?_⟩) (by assumption) ?_
                  rotate_left
                  · intro w hSw
                    try dsimp only at hSw
                    go_simp
                    all_goals with_reducible rfl
                  try simp only [Act.put, List.setIfInBounds_toArray, List.set_cons_zero, List.set_cons_succ]
                  refine wpAnyH_take (i := 11) (oi := { dst := some 22, op := Op.move (Operand.tmp 21), type := 4, pos := "law.go:102", after := #[{ on := 10, ground := Ground.data }, { on := 9, ground := Ground.chain }], guard := none }) (v := ?_) rfl (by kernel_rfl) (by kernel_rfl) (by kernel_rfl) (fun _ _ _ h => h) (Or.inl ⟨by rfl, ?_⟩) (by assumption) ?_
                  rotate_left
                  · intro w hSw
                    try dsimp only at hSw
                    go_simp
                    all_goals with_reducible rfl
                  try simp only [Act.put, List.setIfInBounds_toArray, List.set_cons_zero, List.set_cons_succ]
                  refine wpAnyH_take (i := 12) (oi := { dst := some 23, op := Op.move (Operand.tmp 2), type := 9, pos := "law.go:102", after := #[{ on := 11, ground := Ground.guard }], guard := some (11, false) }) (v := undef) rfl (by kernel_rfl) (by kernel_rfl) (by kernel_rfl) (fun _ _ _ h => h) (Or.inr ⟨by rfl, rfl⟩) (by assumption) ?_
                  try simp only [Act.put, List.setIfInBounds_toArray, List.set_cons_zero, List.set_cons_succ]
                  refine wpAnyH_take (i := 13) (oi := { dst := some 24, op := Op.call { callee := Callee.builtin Builtin.len, args := #[Operand.tmp 23], argTypes := #[9] }, type := 3, pos := "law.go:102", after := #[{ on := 12, ground := Ground.data }, { on := 11, ground := Ground.guard }], guard := some (11, false) }) (v := undef) rfl (by kernel_rfl) (by kernel_rfl) (by kernel_rfl) (fun _ _ _ h => h) (Or.inr ⟨by rfl, rfl⟩) (by assumption) ?_
                  try simp only [Act.put, List.setIfInBounds_toArray, List.set_cons_zero, List.set_cons_succ]
                  refine wpAnyH_take (i := 14) (oi := { dst := some 25, op := Op.binOp BinOp.gtr 3 (Operand.tmp 24) (Operand.const (Value.int IntKind.i64 100)) 3, type := 4, pos := "law.go:102", after := #[{ on := 13, ground := Ground.data }, { on := 11, ground := Ground.guard }], guard := some (11, false) }) (v := undef) rfl (by kernel_rfl) (by kernel_rfl) (by kernel_rfl) (fun _ _ _ h => h) (Or.inr ⟨by rfl, rfl⟩) (by assumption) ?_
                  try simp only [Act.put, List.setIfInBounds_toArray, List.set_cons_zero, List.set_cons_succ]
                  refine wpAnyH_take (i := 15) (oi := { dst := some 26, op := Op.pick (Operand.tmp 22) (Operand.const (Value.bool true)) (Operand.tmp 25), type := 4, pos := "law.go:102", after := #[{ on := 11, ground := Ground.data }, { on := 14, ground := Ground.data }], guard := none }) (v := ?_) rfl (by kernel_rfl) (by kernel_rfl) (by kernel_rfl) (fun _ _ _ h => h) (Or.inl ⟨by rfl, ?_⟩) (by assumption) ?_
                  rotate_left
                  · intro w hSw
                    try dsimp only at hSw
                    go_simp
                    all_goals with_reducible rfl
                  try simp only [Act.put, List.setIfInBounds_toArray, List.set_cons_zero, List.set_cons_succ]
                  refine wpAnyH_done (by kernel_rfl) ?_ _
                  go_wp2_with fail
                  go_meet
                  case rel => exact ⟨rfl, HRB.out.next HB6.out, Below.next HBW.out HB6.out⟩
                exact AllReadyH.nil
              exact AllReadyH.nil
            exact AllReadyH.nil
          exact AllReadyH.nil
        exact AllReadyH.nil
      exact AllReadyH.nil
    case rest =>
      obtain ⟨rfl, _, hbel⟩ := hcut
      have HB2 := Lib.hid hbel
      clear hbel
      go_wp2_with fail
      refine (awake_yes _).mono ?_
      rintro e w3 ⟨rfl, hb⟩
      have HB3 := Lib.hid (Below.next HB2.out hb)
      clear hb HB2
      go_wp2
      go_ret
      exact ⟨rfl, HB3.out⟩
  have HG := fun a c w hr => Lib.hid (great8_no none 0 0 [] a (lr + 1) c (rs ++ [⟨ro, rnn, ra, rl, rc, ru⟩]) hg w (isUs_nil w) hr)
  have hp := g8_pl hg
  have hlr : lr ≤ 12 := by have := (g8_rs hg).1; rw [List.length_append, hrs] at this; simp at this; omega
  by_cases hk : 100 < key.size
  · have q : decide ((100 : Int) < (key.size : Int)) = true := decide_eq_true (by omega)
    clear hg hr hru hcr hnr hp hk
    go_enter Try.func8, Try.ntmps8
    have tok1 : True := trivial
    have tok2 : True := trivial
    go_wp2_with fail
    go_cut [26] from 11 to 26 (fun v26 wx => v26 = .bool true ∧ Rb wx w.heap.size ro rnn ra rl rc ∧ Below w.heap.size w wx)
    case first =>
      go_region_held3 (fun w' => w'.cell? ⟨w.heap.size, 0, none⟩ = some (.int .i64 ro) ∧ w'.cell? ⟨w.heap.size, 1, none⟩ = some (.int .i64 rnn) ∧ w'.cell? ⟨w.heap.size, 2, none⟩ = some (.slice ra rl rc))
            (first
              | with_reducible assumption
              | with_reducible exact HSW.out _ (Below.refl _ _)
              | with_reducible exact HSW.out _ (Joins.below_alloc1 _ _)
              | with_reducible exact HSW.out _ (Joins.below_alloc2 _ _ _)
              | with_reducible exact HSW.out _ HB3.out
              | with_reducible exact HSW.out _ (HB3.out.alloc HB3.out.size _)
              | with_reducible exact HSW.out _ HB5.out
              | with_reducible exact HS0.out
              | with_reducible exact HS6.out)
            (first
              | (go_at_call 9
                 refine (awake_yes _).mono ?_
                 rintro e w1 ⟨rfl, hb⟩
                 have hbw := gr_start (r := ⟨ro, rnn, ra, rl, rc, ru⟩) hb
                 have HSW := Lib.hid (box_all hbw.1)
                 have HRB := Lib.hid hbw.1
                 have HRW := Lib.hid (rsAt_below HR.out.at hbw.2)
                 have HBW := Lib.hid hbw.2
                 have hw1 := hbw.2.size
                 clear hb hbw)
              | (have _t := tok1; (first | (refine step_appR0 (by rfl) (.tmp 14) (.tmp 15) (by rfl) w1.heap.size _ (by rfl) (rowR_new w1) ar lr cr (by rfl) rs (rsAt_below HRW.out (Joins.below_alloc1 w1 _)) HCR.out HNR.out (by omega) (Joins.below_alloc1 w1 _).size ?_; intro a3 c3 w3 hr3 hg3; have HB3 := Lib.hid (belR (rowR_new w1) (Joins.below_alloc1 w1 _) hg3 (Joins.below_alloc1 w1 _).size)) | (refine step_appR0 (by rfl) (.tmp 14) (.tmp 15) (by rfl) w1.heap.size _ (by rfl) ((rowR_new w1).alloc (.cells #[.int .i64 ro, .int .i64 rnn, .slice ra rl rc] 45)) ar lr cr (by rfl) rs (rsAt_below HRW.out (Joins.below_alloc2 w1 _ _)) HCR.out HNR.out (by omega) (Joins.below_alloc2 w1 _ _).size ?_; intro a3 c3 w3 hr3 hg3; have HB3 := Lib.hid (belR ((rowR_new w1).alloc (.cells #[.int .i64 ro, .int .i64 rnn, .slice ra rl rc] 45)) (Joins.below_alloc2 w1 _ _) hg3 (Joins.below_alloc2 w1 _ _).size)) | (refine step_appR0 (by rfl) (.tmp 14) (.tmp 15) (by rfl) w1.heap.size _ (by rfl) (rowR_new2 w1 (.cells #[.int .i64 ro, .int .i64 rnn, .slice ra rl rc] 45)) ar lr cr (by rfl) rs (rsAt_below HRW.out (Joins.below_alloc2 w1 _ _)) HCR.out HNR.out (by omega) (Joins.below_alloc2 w1 _ _).size ?_; intro a3 c3 w3 hr3 hg3; have HB3 := Lib.hid (belR (rowR_new2 w1 (.cells #[.int .i64 ro, .int .i64 rnn, .slice ra rl rc] 45)) (Joins.below_alloc2 w1 _ _) hg3 (Joins.below_alloc2 w1 _ _).size))); (first | (have HQ : Hid (RsAt w3 (some ⟨w1.heap.size + 1, 0, none⟩) 1 [⟨ro, rnn, ra, rl, rc, ru⟩]) := Lib.hid (rs_kept (rsAt_new (w1.alloc (.cells #[] 45)) ⟨ro, rnn, ra, rl, rc, ru⟩ (size_alloc _ _)) hg3 (by simp [Value.ownBlock]))) | (have HQ : Hid (RsAt w3 (some ⟨w1.heap.size, 0, none⟩) 1 [⟨ro, rnn, ra, rl, rc, ru⟩]) := Lib.hid (rs_kept (rsAt_below (rsAt_one w1 ⟨ro, rnn, ra, rl, rc, ru⟩) (Joins.below_alloc1 _ (.cells #[] 45))) hg3 (by simp [Value.ownBlock]))) | skip); have HR3 := Lib.hid hr3; clear tok1 hr3 hg3)
              | (have _t := tok2; (first | (refine step_appRm (by rfl) (.tmp 16) (.tmp 18) (by rfl) w1.heap.size _ rs lr hrs (by rfl) HR3.out _ 1 1 (by rfl) [⟨ro, rnn, ra, rl, rc, ru⟩] HQ.out (Nat.le_refl _) (fun e => by cases e) (by omega) HB3.out.size ?_; intro a5 c5 w5 hr5 hg5; have HB5 := Lib.hid (belR HR3.out HB3.out hg5 HB3.out.size)) | (refine step_appRm (by rfl) (.tmp 16) (.tmp 18) (by rfl) w1.heap.size _ rs lr hrs (by rfl) (HR3.out.alloc (.cells #[.int .i64 ro, .int .i64 rnn, .slice ra rl rc] 45)) _ 1 1 (by rfl) [⟨ro, rnn, ra, rl, rc, ru⟩] (rsAt_one w3 ⟨ro, rnn, ra, rl, rc, ru⟩) (Nat.le_refl _) (fun e => by cases e) (by omega) (Nat.le_trans HB3.out.size (Joins.below_alloc1 _ _).size) ?_; intro a5 c5 w5 hr5 hg5; have HB5 := Lib.hid (belR (HR3.out.alloc (.cells #[.int .i64 ro, .int .i64 rnn, .slice ra rl rc] 45)) (HB3.out.alloc HB3.out.size (.cells #[.int .i64 ro, .int .i64 rnn, .slice ra rl rc] 45)) hg5 (Nat.le_trans HB3.out.size (Joins.below_alloc1 _ _).size)))); have HR5 := Lib.hid hr5; clear tok2 hr5 hg5)
              | (go_at_call 10
                 refine (HG _ _ _ (gr_is HR.out HRU.out HBW.out HR5.out HB5.out)).out.mono ?_
                 rintro e w6 ⟨rfl, hb⟩
                 have HB6 := Lib.hid (Below.next HB5.out hb)
                 have HS6 := Lib.hid (HSW.out _ HB6.out)
                 clear hb))
      all_goals (
        go_wp2_with fail
        go_meet
        case rel => exact ⟨rfl, HRB.out.next HB6.out, Below.next HBW.out HB6.out⟩)
    case rest =>
      obtain ⟨rfl, _, hbel⟩ := hcut
      have HB2 := Lib.hid hbel
      clear hbel
      go_wp2_with fail
      refine (awake_yes _).mono ?_
      rintro e w3 ⟨rfl, hb⟩
      have HB3 := Lib.hid (Below.next HB2.out hb)
      clear hb HB2
      go_wp2
      go_ret
      exact ⟨rfl, HB3.out⟩
  have q : decide ((100 : Int) < (key.size : Int)) = false := decide_eq_false (by omega)
  have hk1 : key.size ≤ 1000 := by omega
  have hps : Pl [] rs := gr_pl hp
  have hrul : ru.length = rl := hru.1.size
  have hul : rl ≤ 20 := by have := (g8_rs hg).2 ⟨ro, rnn, ra, rl, rc, ru⟩ (by simp); have h2 : ru.length ≤ 20 := this.1; omega
  have HUS : Hid (∀ u ∈ ru, u.1.size ≤ 1000 ∧ Sh u.2.2.2) := Lib.hid fun u hx => hp.sh u (by rw [flatR_snoc]; simp; exact .inr hx)
  have HGD : Hid (∀ k, Gd (stF (flatR rs) k)) := Lib.hid (gd_st _ (by have := hps.all; rwa [List.append_nil] at this))
  obtain ⟨ss, hss, _⟩ := keyL_ex (flatR rs ++ ru)
  have e0 : flatR (rs ++ [⟨ro, rnn, ra, rl, rc, ru⟩]) ++ [] = flatR rs ++ ru := by rw [flatR_snoc, List.append_nil]
  have HST := fun w hr => Lib.hid (state_any none 0 0 [] ar lr cr rs hps w (isUs_nil w) hr)
  rw [List.append_nil] at HST
  have hgd2 : Sh (stF (flatR rs ++ ru) (ky key)).2.2 := (gd_st _ (by have := hp.all; rwa [e0] at this) _).2.2
  have HGT := fun b m w h => Lib.hid (get_any b m (1000 + rl) (stF (flatR rs ++ ru)) key hk1 hgd2 w h)
  have HRD := fun a c w hr => Lib.hid (read_any key none 0 0 [] a (lr + 1) c (rs ++ [⟨ro, rnn, ra, rl, rc, ru⟩]) hp w (isUs_nil w) hr)
  have HSL := fun b m w h => Lib.hid (len_any b m (1000 + rl) _ ss hss w h)
  have HLN := fun a c w hr => Lib.hid (lens_any none 0 0 [] a (lr + 1) c (rs ++ [⟨ro, rnn, ra, rl, rc, ru⟩]) hp ss (by rw [e0]; exact hss) w (isUs_nil w) hr)
  rw [e0] at HRD
  obtain ⟨⟨vk, vn, vt⟩, HEQ⟩ : ∃ r, Hid (stF (flatR rs ++ ru) (ky key) = r) := ⟨_, Lib.hid rfl⟩
  rw [HEQ.out] at HRD HGT
  simp only [vv_eq] at HRD HGT
  generalize ss.length = sl at *
  clear hg hr hru hcr hnr hp hk hps hss e0 hgd2 HEQ
  go_enter Try.func8, Try.ntmps8
  have tok1 : True := trivial
  have tok2 : True := trivial
  go_wp2_with fail
  go_cut [26] from 11 to 26 (fun v26 wx => v26 = .bool false ∧ Rb wx w.heap.size ro rnn ra rl rc ∧ Below w.heap.size w wx)
  case first =>
    go_region_held3 (fun w' => w'.cell? ⟨w.heap.size, 0, none⟩ = some (.int .i64 ro) ∧ w'.cell? ⟨w.heap.size, 1, none⟩ = some (.int .i64 rnn) ∧ w'.cell? ⟨w.heap.size, 2, none⟩ = some (.slice ra rl rc))
          (first
            | with_reducible assumption
            | with_reducible exact HSW.out _ (Below.refl _ _)
            | with_reducible exact HSW.out _ (Joins.below_alloc1 _ _)
            | with_reducible exact HSW.out _ (Joins.below_alloc2 _ _ _)
            | with_reducible exact HSW.out _ HB3.out
            | with_reducible exact HSW.out _ (HB3.out.alloc HB3.out.size _)
            | with_reducible exact HSW.out _ HB5.out
            | with_reducible exact HS0.out
            | with_reducible exact HS6.out)
          (first
            | (go_at_call 9
               refine (awake_yes _).mono ?_
               rintro e w1 ⟨rfl, hb⟩
               have hbw := gr_start (r := ⟨ro, rnn, ra, rl, rc, ru⟩) hb
               have HSW := Lib.hid (box_all hbw.1)
               have HRB := Lib.hid hbw.1
               have HRW := Lib.hid (rsAt_below HR.out.at hbw.2)
               have HBW := Lib.hid hbw.2
               have hw1 := hbw.2.size
               clear hb hbw)
            | (have _t := tok1; (first | (refine step_appR0 (by rfl) (.tmp 14) (.tmp 15) (by rfl) w1.heap.size _ (by rfl) (rowR_new w1) ar lr cr (by rfl) rs (rsAt_below HRW.out (Joins.below_alloc1 w1 _)) HCR.out HNR.out (by omega) (Joins.below_alloc1 w1 _).size ?_; intro a3 c3 w3 hr3 hg3; have HB3 := Lib.hid (belR (rowR_new w1) (Joins.below_alloc1 w1 _) hg3 (Joins.below_alloc1 w1 _).size)) | (refine step_appR0 (by rfl) (.tmp 14) (.tmp 15) (by rfl) w1.heap.size _ (by rfl) ((rowR_new w1).alloc (.cells #[.int .i64 ro, .int .i64 rnn, .slice ra rl rc] 45)) ar lr cr (by rfl) rs (rsAt_below HRW.out (Joins.below_alloc2 w1 _ _)) HCR.out HNR.out (by omega) (Joins.below_alloc2 w1 _ _).size ?_; intro a3 c3 w3 hr3 hg3; have HB3 := Lib.hid (belR ((rowR_new w1).alloc (.cells #[.int .i64 ro, .int .i64 rnn, .slice ra rl rc] 45)) (Joins.below_alloc2 w1 _ _) hg3 (Joins.below_alloc2 w1 _ _).size)) | (refine step_appR0 (by rfl) (.tmp 14) (.tmp 15) (by rfl) w1.heap.size _ (by rfl) (rowR_new2 w1 (.cells #[.int .i64 ro, .int .i64 rnn, .slice ra rl rc] 45)) ar lr cr (by rfl) rs (rsAt_below HRW.out (Joins.below_alloc2 w1 _ _)) HCR.out HNR.out (by omega) (Joins.below_alloc2 w1 _ _).size ?_; intro a3 c3 w3 hr3 hg3; have HB3 := Lib.hid (belR (rowR_new2 w1 (.cells #[.int .i64 ro, .int .i64 rnn, .slice ra rl rc] 45)) (Joins.below_alloc2 w1 _ _) hg3 (Joins.below_alloc2 w1 _ _).size))); (first | (have HQ : Hid (RsAt w3 (some ⟨w1.heap.size + 1, 0, none⟩) 1 [⟨ro, rnn, ra, rl, rc, ru⟩]) := Lib.hid (rs_kept (rsAt_new (w1.alloc (.cells #[] 45)) ⟨ro, rnn, ra, rl, rc, ru⟩ (size_alloc _ _)) hg3 (by simp [Value.ownBlock]))) | (have HQ : Hid (RsAt w3 (some ⟨w1.heap.size, 0, none⟩) 1 [⟨ro, rnn, ra, rl, rc, ru⟩]) := Lib.hid (rs_kept (rsAt_below (rsAt_one w1 ⟨ro, rnn, ra, rl, rc, ru⟩) (Joins.below_alloc1 _ (.cells #[] 45))) hg3 (by simp [Value.ownBlock]))) | skip); have HR3 := Lib.hid hr3; clear tok1 hr3 hg3)
            | (have _t := tok2; (first | (refine step_appRm (by rfl) (.tmp 16) (.tmp 18) (by rfl) w1.heap.size _ rs lr hrs (by rfl) HR3.out _ 1 1 (by rfl) [⟨ro, rnn, ra, rl, rc, ru⟩] HQ.out (Nat.le_refl _) (fun e => by cases e) (by omega) HB3.out.size ?_; intro a5 c5 w5 hr5 hg5; have HB5 := Lib.hid (belR HR3.out HB3.out hg5 HB3.out.size)) | (refine step_appRm (by rfl) (.tmp 16) (.tmp 18) (by rfl) w1.heap.size _ rs lr hrs (by rfl) (HR3.out.alloc (.cells #[.int .i64 ro, .int .i64 rnn, .slice ra rl rc] 45)) _ 1 1 (by rfl) [⟨ro, rnn, ra, rl, rc, ru⟩] (rsAt_one w3 ⟨ro, rnn, ra, rl, rc, ru⟩) (Nat.le_refl _) (fun e => by cases e) (by omega) (Nat.le_trans HB3.out.size (Joins.below_alloc1 _ _).size) ?_; intro a5 c5 w5 hr5 hg5; have HB5 := Lib.hid (belR (HR3.out.alloc (.cells #[.int .i64 ro, .int .i64 rnn, .slice ra rl rc] 45)) (HB3.out.alloc HB3.out.size (.cells #[.int .i64 ro, .int .i64 rnn, .slice ra rl rc] 45)) hg5 (Nat.le_trans HB3.out.size (Joins.below_alloc1 _ _).size)))); have HR5 := Lib.hid hr5; clear tok2 hr5 hg5)
            | (go_at_call 10
               refine (HG _ _ _ (gr_is HR.out HRU.out HBW.out HR5.out HB5.out)).out.mono ?_
               rintro e w6 ⟨rfl, hb⟩
               have HB6 := Lib.hid (Below.next HB5.out hb)
               have HS6 := Lib.hid (HSW.out _ HB6.out)
               clear hb))
    all_goals (
      go_wp2_with fail
      go_meet
      case rel => exact ⟨rfl, HRB.out.next HB6.out, Below.next HBW.out HB6.out⟩)
  case rest =>
    obtain ⟨rfl, hrb, hbel⟩ := hcut
    have HRB := Lib.hid hrb
    have HBC := Lib.hid hbel
    have hcw := hrb.lt
    clear hrb hbel HG HS0
    go_wp2_with fail
    refine (HST _ (isRs_below HR.out HBC.out)).out.mono ?_
    rintro e w3 ⟨b, m, rfl, hm, hs, hb⟩
    have hrb3 := HRB.out.next hb
    have p2 := hrb3.c2
    have HRB3 := Lib.hid hrb3
    have HB3 := Lib.hid (Below.next HBC.out hb)
    have HS3 := Lib.hid hs
    clear hrb3 hs hb HRB HBC HST
    have hml : w.heap.size < m := by omega
    go_wp2_with fail
    go_loopw [35] (fun v35 wr => ∃ k : Nat, k ≤ rl ∧ v35 = .int .i64 k ∧ St wr b m (1000 + k) ((ru.take k).foldl doF (stF (flatR rs))) ∧ Rb wr w.heap.size ro rnn ra rl rc ∧ Below w.heap.size w wr) (fun v35 _ => rl - (intOf v35).toNat)
    case atStart => exact ⟨0, Nat.zero_le _, rfl, HS3.out, HRB3.out, HB3.out⟩
    case round =>
      obtain ⟨k, hk, rfl, hst, hrb, hbel⟩ := hrel
      clear HS3 HRB3 HB3 p2
      by_cases hlt : k < rl
      · obtain ⟨b1, off, rfl, c0, c1, c2, c3⟩ := cells_of HRU.out.1 hbel hlt
        have hus := HUS.out _ (mem_getD (us := ru) (k := k) (by omega))
        have HD := fun w h => Lib.hid (do_any b m (1000 + k) ((ru.take k).foldl doF (stF (flatR rs))) (ru.getD k up0) hus.1 (by omega) hus.2 (gd_fold _ (fun u hx => (HUS.out u (List.mem_of_mem_take hx)).2) _ HGD.out) w h)
        rw [← fold_take ru _ k (by omega)] at HD
        have HST := Lib.hid hst
        have HX := Lib.hid (And.intro hrb hbel)
        clear hst hrb hbel hus
        generalize mayE (ru.getD k up0) = me at *
        generalize ru.getD k up0 = u at *
        obtain ⟨uk, ux, un, ut⟩ := u
        simp only [uu] at HD c0 c1 c2 c3
        go_wp2_with fail
        refine (HD _ (HST.out.alloc _)).out.mono ?_
        rintro e w5 ⟨rfl, h5, hg5⟩
        have H5 := Lib.hid h5
        have HX5 := Lib.hid (gr_do HX.out hml hg5)
        clear h5 hg5 HST HX HD
        go_wp2
        go_roundw
        case rel => exact ⟨k + 1, by omega, by go_num, H5.out, HX5.out.1, HX5.out.2⟩
        case measure => simp [intOf]; omega
      · obtain rfl : k = rl := by omega
        rw [take_all hrul, ← fold_app] at hst
        have HSW := Lib.hid (box_all (r := ⟨ro, rnn, ra, k, rc, ru⟩) hrb)
        have HRW := Lib.hid (rsAt_below HR.out.at hbel)
        have HST := Lib.hid hst
        have HBX := Lib.hid hbel
        clear hst hrb hbel
        have tok1 : True := trivial
        have tok2 : True := trivial
        go_wp2_with fail
        go_cut [10] from 43 to 48 (fun v10 wx => ∃ a c, v10 = .slice a (lr + 1) c ∧ RowR wr.heap.size wx (.slice a (lr + 1) c) (rs ++ [⟨ro, rnn, ra, k, rc, ru⟩]) ∧ Below wr.heap.size wr wx)
        case first =>
          go_region_held3 (fun w' => w'.cell? ⟨w.heap.size, 0, none⟩ = some (.int .i64 ro) ∧ w'.cell? ⟨w.heap.size, 1, none⟩ = some (.int .i64 rnn) ∧ w'.cell? ⟨w.heap.size, 2, none⟩ = some (.slice ra k rc))
            (first
              | with_reducible assumption
              | with_reducible exact HSW.out _ (Below.refl _ _).drew
              | with_reducible exact HSW.out _ (Joins.below_alloc1 _ _).drew
              | with_reducible exact HSW.out _ (Joins.below_alloc2 _ _ _).drew
              | with_reducible exact HSW.out _ HB3.out
              | with_reducible exact HSW.out _ (HB3.out.alloc HB3.out.size _)
              | with_reducible exact HSW.out _ HB5.out)
            (first
              | (have _t := tok1; (first | (refine step_appR0 (by rfl) (.tmp 43) (.tmp 44) (by rfl) wr.heap.size _ (by rfl) (rowR_new wr).drew ar lr cr (by rfl) rs (rsAt_below HRW.out (Joins.below_alloc1 wr _).drew) HCR.out HNR.out (by omega) (Joins.below_alloc1 wr _).drew.size ?_; intro a3 c3 w3 hr3 hg3; have HB3 := Lib.hid (belR (rowR_new wr).drew (Joins.below_alloc1 wr _).drew hg3 (Joins.below_alloc1 wr _).drew.size)) | (refine step_appR0 (by rfl) (.tmp 43) (.tmp 44) (by rfl) wr.heap.size _ (by rfl) ((rowR_new wr).alloc (.cells #[.int .i64 ro, .int .i64 rnn, .slice ra k rc] 45)).drew ar lr cr (by rfl) rs (rsAt_below HRW.out (Joins.below_alloc2 wr _ _).drew) HCR.out HNR.out (by omega) (Joins.below_alloc2 wr _ _).drew.size ?_; intro a3 c3 w3 hr3 hg3; have HB3 := Lib.hid (belR ((rowR_new wr).alloc (.cells #[.int .i64 ro, .int .i64 rnn, .slice ra k rc] 45)).drew (Joins.below_alloc2 wr _ _).drew hg3 (Joins.below_alloc2 wr _ _).drew.size)) | (refine step_appR0 (by rfl) (.tmp 43) (.tmp 44) (by rfl) wr.heap.size _ (by rfl) (rowR_new2 wr (.cells #[.int .i64 ro, .int .i64 rnn, .slice ra k rc] 45)).drew ar lr cr (by rfl) rs (rsAt_below HRW.out (Joins.below_alloc2 wr _ _).drew) HCR.out HNR.out (by omega) (Joins.below_alloc2 wr _ _).drew.size ?_; intro a3 c3 w3 hr3 hg3; have HB3 := Lib.hid (belR (rowR_new2 wr (.cells #[.int .i64 ro, .int .i64 rnn, .slice ra k rc] 45)).drew (Joins.below_alloc2 wr _ _).drew hg3 (Joins.below_alloc2 wr _ _).drew.size))); (first | (have HQ : Hid (RsAt w3 (some ⟨wr.heap.size + 1, 0, none⟩) 1 [⟨ro, rnn, ra, k, rc, ru⟩]) := Lib.hid (rs_kept (rsAt_new (wr.alloc (.cells #[] 45)) ⟨ro, rnn, ra, k, rc, ru⟩ (size_alloc _ _)).drew hg3 (by simp [Value.ownBlock]))) | (have HQ : Hid (RsAt w3 (some ⟨wr.heap.size, 0, none⟩) 1 [⟨ro, rnn, ra, k, rc, ru⟩]) := Lib.hid (rs_kept (rsAt_below (rsAt_one wr ⟨ro, rnn, ra, k, rc, ru⟩) (Joins.below_alloc1 _ (.cells #[] 45))).drew hg3 (by simp [Value.ownBlock]))) | skip); have HR3 := Lib.hid hr3; clear tok1 hr3 hg3)
              | (have _t := tok2; (first | (refine step_appRm (by rfl) (.tmp 45) (.tmp 47) (by rfl) wr.heap.size _ rs lr hrs (by rfl) HR3.out _ 1 1 (by rfl) [⟨ro, rnn, ra, k, rc, ru⟩] HQ.out (Nat.le_refl _) (fun e => by cases e) (by omega) HB3.out.size ?_; intro a5 c5 w5 hr5 hg5; have HB5 := Lib.hid (belR HR3.out HB3.out hg5 HB3.out.size)) | (refine step_appRm (by rfl) (.tmp 45) (.tmp 47) (by rfl) wr.heap.size _ rs lr hrs (by rfl) (HR3.out.alloc (.cells #[.int .i64 ro, .int .i64 rnn, .slice ra k rc] 45)) _ 1 1 (by rfl) [⟨ro, rnn, ra, k, rc, ru⟩] (rsAt_one w3 ⟨ro, rnn, ra, k, rc, ru⟩) (Nat.le_refl _) (fun e => by cases e) (by omega) (Nat.le_trans HB3.out.size (Joins.below_alloc1 _ _).size) ?_; intro a5 c5 w5 hr5 hg5; have HB5 := Lib.hid (belR (HR3.out.alloc (.cells #[.int .i64 ro, .int .i64 rnn, .slice ra k rc] 45)) (HB3.out.alloc HB3.out.size (.cells #[.int .i64 ro, .int .i64 rnn, .slice ra k rc] 45)) hg5 (Nat.le_trans HB3.out.size (Joins.below_alloc1 _ _).size)))); have HR5 := Lib.hid hr5; clear tok2 hr5 hg5))
          all_goals (
            go_wp2_with fail
            go_meet
            case rel => exact ⟨_, _, rfl, HR5.out, HB5.out⟩)
        case rest =>
          obtain ⟨a, c, rfl, hra, hbx⟩ := hcut
          have HIA := Lib.hid (gr_is HR.out HRU.out HBX.out hra hbx)
          have HS7 := Lib.hid (HST.out.below hbx)
          have HB7 := Lib.hid (Below.next HBX.out hbx)
          clear hra hbx HST HBX HSW HRW
          go_wp2_with fail
          refine (HGT b m _ HS7.out).out.mono ?_
          rintro e w8 ⟨rfl, hb⟩
          have HIA8 := Lib.hid (isRs_below HIA.out hb)
          have HS8 := Lib.hid (HS7.out.below hb)
          have HB8 := Lib.hid (Below.next HB7.out hb)
          clear hb HIA HS7 HB7 HGT
          go_wp2_with fail
          refine (HRD _ _ _ HIA8.out).out.mono ?_
          rintro e w9 ⟨rfl, hb⟩
          have HIA9 := Lib.hid (isRs_below HIA8.out hb)
          have HS9 := Lib.hid (HS8.out.below hb)
          have HB9 := Lib.hid (Below.next HB8.out hb)
          clear hb HIA8 HS8 HB8 HRD
          go_wp2_with fail
          refine (HSL b m _ HS9.out).out.mono ?_
          rintro e w9x ⟨rfl, rfl⟩
          go_wp2_with fail
          refine (HLN _ _ _ HIA9.out).out.mono ?_
          rintro e w10 ⟨rfl, hb⟩
          have HB10 := Lib.hid (Below.next HB9.out hb)
          clear hb HIA9 HS9 HB9 HLN HSL
          go_wp2
          go_ret
          exact ⟨rfl, HB10.out⟩
end Go.Proofs.Yteonmljchcekpaa
