import Derived.Test.YtidhceebafmlkaaGreatDoorTrHang
import Derived.Test.YtidhceebafmlkaaGreatDoorTrNodes
namespace Go.Proofs.YtidhceebafmlkaaGreatDoor.Tr
open Go.RowKit Cu
theorem visit_any (w0 : World) (N b off : Nat) (n cap : Nat) (ns : List Nd) (hN : N = w0.heap.size) (hb : b < N) (hc : ∀ i, i < n → Nx w0 b (off + i * 10) (nd ns i)) (hn : n ≤ 1000000) (hlen : ns.length = n) (hls : ∀ i, (nd ns i).list.length ≤ 1000000000) :
    ∀ (f dp : Nat), dp + f = 33 → ∀ (dir : Nat) (T : List Nat) (w : World), dir < n → Vs w0 w N (some ⟨b, off, none⟩) n cap T → Once ns T →
      Calls Tryz.prog 175 #[.int .i64 dir, .int .i64 dp, .pointer (some ⟨N, 0, none⟩), .pointer (some ⟨N + 2, 0, none⟩), .pointer (some ⟨N + 3, 0, none⟩)] w fun e w' => VisR w0 N (some ⟨b, off, none⟩) n cap ns (visitP ns f dir T) e w' := by
  intro f
  induction f with
  | zero =>
    intro dp hdp dir T w _ hV _
    obtain rfl : dp = 33 := by omega
    exact visit_zero w0 N _ n cap ns dir T w hV
  | succ f ih =>
    intro dp hdp dir T w hdir hV hO
    refine visit_succ w0 N b off n cap ns hN hb hc hn hlen hls f dp hdp ?_ dir T w hdir hV hO
    intro dir' T' w' hd' hV' hO'
    exact ih (dp + 1) (by omega) dir' T' w' hd' hV' hO'
theorem Tryz.infoInt : (Tryz.prog.info? 3).map (fun i => (i.zero, i.size, i.bytes)) = some (some (.int .i64 0), 1, 8) := by kernel_rfl
theorem lv_nil (n : Nat) : List.replicate n (Value.int .i64 0) = (lv n []).toList := by
  unfold lv
  simp [Tr.wr, IntKind.wrap]
  apply List.ext_getElem?
  intro i
  by_cases h : i < n <;> simp [h]
  all_goals first | rfl | decide | skip
theorem made_int (m : Nat) (hm : m ≤ 1000000) (W : World) : (Instr.makeSlice 142 (.int .i64 (m : Int)) (.int .i64 (m : Int))).run Tryz.prog W = .ok (.slice (some ⟨W.heap.size, 0, none⟩) m m) (W.alloc (.cells (lv m []) 3)) := by
  obtain ⟨i0, hi, hz0, hz1, hz2⟩ := info_parts Tryz.infoInt
  have h := run_makeSlice (P := Tryz.prog) (w := W) 142 3 i0 (.int .i64 0) Tryz.underlying142 hi hz0 .i64 .i64 (m : Int) (m : Int) (by omega) (by omega) (by rw [hz1]; omega) (by rw [hz2]; omega) (by omega)
  rw [h]
  simp only [Int.toNat_natCast, hz1, Nat.mul_one]
  refine congrArg (fun c => Result.ok (Value.slice (some ⟨W.heap.size, 0, none⟩) m m) (W.alloc (.cells c 3))) ?_
  apply Array.toList_inj.1
  rw [show (Value.int .i64 0).cells = #[.int .i64 0] from rfl, toList_madeCells_one, lv_nil]
theorem vs_first (w : World) (b off n cap : Nat) : Vs w ((((w.alloc (.cells #[.slice (some ⟨b, off, none⟩) n cap] 22)).alloc (.cells (lv n []) 3)).alloc (.cells #[.slice (some ⟨w.heap.size + 1, 0, none⟩) n n] 142)).alloc
      (.cells #[.func (.func 175) #[] #[.pointer (some ⟨w.heap.size, 0, none⟩), .pointer (some ⟨w.heap.size + 2, 0, none⟩), .pointer (some ⟨w.heap.size + 3, 0, none⟩)]] 191)) w.heap.size (some ⟨b, off, none⟩) n cap [] := by
  have h1 := heap_alloc_new w (.cells #[.slice (some ⟨b, off, none⟩) n cap] 22)
  have s1 : (w.alloc (.cells #[.slice (some ⟨b, off, none⟩) n cap] 22)).heap.size = w.heap.size + 1 := by simp
  have b0 : Below w.heap.size w (w.alloc (.cells #[.slice (some ⟨b, off, none⟩) n cap] 22)) := (Below.refl _ _).alloc (Nat.le_refl _) _
  generalize w.alloc (.cells #[.slice (some ⟨b, off, none⟩) n cap] 22) = w1 at *
  have h2 := heap_alloc_new w1 (.cells (lv n []) 3)
  have s2 : (w1.alloc (.cells (lv n []) 3)).heap.size = w.heap.size + 2 := by simp; omega
  have b1 : Below w1.heap.size w1 (w1.alloc (.cells (lv n []) 3)) := (Below.refl _ _).alloc (Nat.le_refl _) _
  generalize w1.alloc (.cells (lv n []) 3) = w2 at *
  have h3 := heap_alloc_new w2 (.cells #[.slice (some ⟨w.heap.size + 1, 0, none⟩) n n] 142)
  have s3 : (w2.alloc (.cells #[.slice (some ⟨w.heap.size + 1, 0, none⟩) n n] 142)).heap.size = w.heap.size + 3 := by simp; omega
  have b2 : Below w2.heap.size w2 (w2.alloc (.cells #[.slice (some ⟨w.heap.size + 1, 0, none⟩) n n] 142)) := (Below.refl _ _).alloc (Nat.le_refl _) _
  generalize w2.alloc (.cells #[.slice (some ⟨w.heap.size + 1, 0, none⟩) n n] 142) = w3 at *
  have h4 := heap_alloc_new w3 (.cells #[.func (.func 175) #[] #[.pointer (some ⟨w.heap.size, 0, none⟩), .pointer (some ⟨w.heap.size + 2, 0, none⟩), .pointer (some ⟨w.heap.size + 3, 0, none⟩)]] 191)
  have b3 : Below w3.heap.size w3 (w3.alloc (.cells #[.func (.func 175) #[] #[.pointer (some ⟨w.heap.size, 0, none⟩), .pointer (some ⟨w.heap.size + 2, 0, none⟩), .pointer (some ⟨w.heap.size + 3, 0, none⟩)]] 191)) := (Below.refl _ _).alloc (Nat.le_refl _) _
  have s4 : w.heap.size + 4 ≤ (w3.alloc (.cells #[.func (.func 175) #[] #[.pointer (some ⟨w.heap.size, 0, none⟩), .pointer (some ⟨w.heap.size + 2, 0, none⟩), .pointer (some ⟨w.heap.size + 3, 0, none⟩)]] 191)).heap.size := by simp; omega
  generalize w3.alloc (.cells #[.func (.func 175) #[] #[.pointer (some ⟨w.heap.size, 0, none⟩), .pointer (some ⟨w.heap.size + 2, 0, none⟩), .pointer (some ⟨w.heap.size + 3, 0, none⟩)]] 191) = w4 at *
  have g1 : w4.heap[w.heap.size]? = _ := (b3.block _ (by omega)).trans ((b2.block _ (by omega)).trans ((b1.block _ (by omega)).trans h1))
  rw [s1] at h2
  have g2 : w4.heap[w.heap.size + 1]? = _ := (b3.block _ (by omega)).trans ((b2.block _ (by omega)).trans h2)
  rw [s2] at h3
  have g3 : w4.heap[w.heap.size + 2]? = _ := (b3.block _ (by omega)).trans h3
  rw [s3] at h4
  refine ⟨b0.trans ((b1.mono (by omega)).trans ((b2.mono (by omega)).trans (b3.mono (by omega)))), ?_, g2, ?_, ?_, s4⟩
  · rw [cell_of_row _ _ _ _ _ _ g1]; rfl
  · rw [cell_of_row _ _ _ _ _ _ g3]; rfl
  · rw [cell_of_row _ _ _ _ _ _ h4]; rfl
theorem store_fn (W : World) (k : Nat) (v : Value) (e : TypeId) (hv : v.oneCell' = true) (hk : k = W.heap.size) : (store ⟨k, 0, none⟩ v).run Tryz.prog (W.alloc (.cells #[.nilFunc] e)) = .ok () (W.alloc (.cells #[v] e)) := by
  subst hk
  rw [run_store _ _ _ _ _ hv]
  have hc : (W.alloc (.cells #[.nilFunc] e)).cell? ⟨W.heap.size, 0, none⟩ = some .nilFunc := by simp
  have hf : (W.alloc (.cells #[.nilFunc] e)).frozen? ⟨W.heap.size, 0, none⟩ = false := by simp
  have hs : (W.alloc (.cells #[.nilFunc] e)).setCell ⟨W.heap.size, 0, none⟩ v = W.alloc (.cells #[v] e) := by rw [World.setCell_alloc_new]; rfl
  rw [hc, hf, hs]
  rfl
set_option maxRecDepth 100000 in
set_option maxHeartbeats 1000000 in
theorem hangs_any (a : Option Addr) (n cap : Nat) (ns : List Nd) (w : World) (h : Ng w a n cap ns) (hn : n ≤ 1000000) (h2 : 2 ≤ n) (hls : ∀ i, (nd ns i).list.length ≤ 1000000000) (hna : namesP ns ns.length ≤ 1000000000) :
    Calls Tryz.prog 107 #[.slice a n cap] w fun e w' => e = .returned (.bool (hangsP ns)) ∧ Below w.heap.size w w' := by
  rcases h.cells with h0 | ⟨b, off, rfl, hb, hc⟩
  · omega
  have hlen := h.len
  have hmk := made_int n hn
  obtain ⟨z0, hz0⟩ : ∃ z0, z0 = lv n [] := ⟨_, rfl⟩
  rw [← hz0] at hmk
  have HZ := hide hz0
  clear hz0
  have hmf : ∀ (fn : Fn) (first cap : Array Value) (w : World), (Instr.makeFunc fn first cap).run Tryz.prog w = .ok (.func fn first cap) w := fun _ _ _ _ => rfl
  have HG := hide h
  have HV : Hid (∀ W, Vs w W w.heap.size (some ⟨b, off, none⟩) n cap [] → Calls Tryz.prog 175 #[.int .i64 1, .int .i64 0, .pointer (some ⟨w.heap.size, 0, none⟩), .pointer (some ⟨w.heap.size + 2, 0, none⟩), .pointer (some ⟨w.heap.size + 3, 0, none⟩)] W fun e w' => VisR w w.heap.size (some ⟨b, off, none⟩) n cap ns (visitP ns 33 1 []) e w') :=
    fun W hW => visit_any w w.heap.size b off n cap ns rfl hb hc hn hlen hls 33 0 rfl 1 [] W (by omega) hW (once_nil ns)
  have HT : Hid (∀ T, visitP ns 33 1 [] = some T → ∀ i, T.count i ≤ 1000000000000) := fun T hT i => by
    have h1 := visit_len ns 33 T (by omega) hT
    have h2 := List.count_le_length (a := i) (l := T)
    omega
  clear hc h hls hna hlen
  have hst : Sem.run Tryz.prog
          (store { block := w.heap.size + 1 + 1 + 1, off := 0 }
            (Value.func (Fn.func 175) #[]
              #[Value.pointer (some { block := w.heap.size, off := 0 }),
                Value.pointer (some { block := w.heap.size + 1 + 1, off := 0 }),
                Value.pointer (some { block := w.heap.size + 1 + 1 + 1, off := 0 })]))
          ((((w.alloc (Obj.cells #[Value.slice (some { block := b, off := off }) n cap] 22)).alloc
                    (Obj.cells z0 3)).alloc
                (Obj.cells #[Value.slice (some { block := w.heap.size + 1, off := 0 }) n n] 142)).alloc
            (Obj.cells #[Value.nilFunc] 191)) = .ok () ((((w.alloc (Obj.cells #[Value.slice (some { block := b, off := off }) n cap] 22)).alloc
                    (Obj.cells z0 3)).alloc
                (Obj.cells #[Value.slice (some { block := w.heap.size + 1, off := 0 }) n n] 142)).alloc
            (Obj.cells #[(Value.func (Fn.func 175) #[]
              #[Value.pointer (some { block := w.heap.size, off := 0 }),
                Value.pointer (some { block := w.heap.size + 1 + 1, off := 0 }),
                Value.pointer (some { block := w.heap.size + 1 + 1 + 1, off := 0 })])] 191)) := store_fn _ _ _ _ rfl (by simp)
  go_enter Tryz.func107, Tryz.ntmps107
  go_wp2_with fail
  have hVs := vs_first w b off n cap
  rw [← uh HZ] at hVs
  refine (uh HV _ hVs).mono ?_
  clear hVs hst hmk hmf HV
  rintro e W2 (⟨hr, rfl, hB2⟩ | ⟨T, hr, rfl, hV2, hO2⟩)
  · have HF : Hid (hangsP ns = false) := hide (by unfold hangsP; rw [hr])
    have HB2 := hide hB2
    clear hr hB2 HG HT HZ
    go_wp2
    go_ret
    exact ⟨by rw [uh HF]; rfl, uh HB2⟩
  · have HF : Hid (hangsP ns = listedP ns T) := hide (by unfold hangsP; rw [hr])
    have hbn := hV2.bn
    have hbl := hV2.bl
    have HA := hide (areListed_any (some ⟨b, off, none⟩) n cap (w.heap.size + 1) ns T W2 ((uh HG).below hV2.below) hV2.li hn h2 (uh HT T hr))
    have HB2 := hide hV2.below
    clear hV2 hr HG HT HZ hO2
    generalize listedP ns T = q at *
    go_wp2_with fail
    refine (uh HA).mono ?_
    rintro e W3 ⟨rfl, b3⟩
    have HB3 := hide ((uh HB2).trans (b3.mono (uh HB2).size))
    clear b3 HA HB2 hbn hbl
    go_wp2
    go_ret
    exact ⟨by rw [uh HF]; rfl, uh HB3⟩
set_option maxRecDepth 100000 in
set_option maxHeartbeats 1000000 in
theorem check_any (a : Option Addr) (n cap : Nat) (ns : List Nd) (now : Int) (w : World) (h : Ng w a n cap ns) (hn : n ≤ 1000000) (hls : ∀ i, (nd ns i).list.length ≤ 1000000000) (hby : bytesP ns ns.length ≤ 1000000000) (hna : namesP ns ns.length ≤ 1000000000) :
    Calls Tryz.prog 36 #[.agg #[.slice a n cap, .int .i64 now]] w fun e w' => e = .returned (.bool (checkP now ns)) ∧ Below w.heap.size w w' := by
  have H1 : Hid (∀ W, Below w.heap.size w W → Calls Tryz.prog 104 #[.slice a n cap] W fun e w' => e = .returned (.bool (rootP ns)) ∧ Below W.heap.size W w') := fun W hW => hasRoot_any a n cap ns W (h.below hW) hn
  have H2 : Hid (∀ W, Below w.heap.size w W → Calls Tryz.prog 105 #[.slice a n cap] W fun e w' => e = .returned (.bool (limitsP ns)) ∧ Below W.heap.size W w') := fun W hW => limits_any a n cap ns W (h.below hW) hn hby hna
  have H3 : Hid (∀ W, Below w.heap.size w W → Calls Tryz.prog 106 #[.slice a n cap] W fun e w' => e = .returned (.bool (nodesP ns)) ∧ Below W.heap.size W w') := fun W hW => areNodes_any a n cap ns W (h.below hW) hn
  have H4 : Hid (∀ W, rootP ns = true → Below w.heap.size w W → Calls Tryz.prog 107 #[.slice a n cap] W fun e w' => e = .returned (.bool (hangsP ns)) ∧ Below W.heap.size W w') := fun W hr hW => hangs_any a n cap ns W (h.below hW) hn (by
    unfold rootP at hr
    rw [h.len] at hr
    simp only [Bool.and_eq_true, decide_eq_true_eq] at hr
    exact hr.1.1.1.1.1) hls hna
  have H0 : Hid (∀ W, Calls Tryz.prog 103 #[.int .i64 now] W fun e w' => e = .returned (.bool (timeP now)) ∧ w' = W) := fun W => isTime_any now W
  clear h hls hby hna
  unfold checkP
  generalize timeP now = q0 at *
  generalize rootP ns = q1 at *
  generalize limitsP ns = q2 at *
  generalize nodesP ns = q3 at *
  generalize hangsP ns = q4 at *
  have hb0 : Hid (Below w.heap.size w (w.alloc (.cells #[.slice a n cap, .int .i64 now] 24))) := (Below.refl _ _).alloc (Nat.le_refl _) _
  have hg0 := heap_alloc_new w (.cells #[.slice a n cap, .int .i64 now] 24)
  have hs0 : Hid (w.heap.size < (w.alloc (.cells #[.slice a n cap, .int .i64 now] 24)).heap.size) := hide (by simp)
  cases q0
  · go_enter Tryz.func36, Tryz.ntmps36
    go_wp2_with (go_at_call 103; refine (uh H0 _).mono ?_; rintro e w' ⟨rfl, rfl⟩)
    go_ret
    exact ⟨by simp, uh hb0⟩
  go_enter Tryz.func36, Tryz.ntmps36
  go_wp2_with (go_at_call 103; refine (uh H0 _).mono ?_; rintro e w' ⟨rfl, rfl⟩)
  refine (uh H1 _ (uh hb0)).mono ?_
  rintro e w1 ⟨rfl, b1⟩
  have hb1 := hide ((uh hb0).trans (b1.mono (uh hb0).size))
  have hg1 := (b1.block _ (uh hs0)).trans hg0
  have hs1 := hide (Nat.lt_of_lt_of_le (uh hs0) b1.size)
  have c1 : w1.cell? ⟨w.heap.size, 0, none⟩ = some (.slice a n cap) := by rw [cell_of_row _ _ _ _ _ _ hg1]; rfl
  have hg1 := hide hg1
  clear b1 hg0 hs0 hb0 H0 H1
  cases q1
  · go_wp2
    go_ret
    exact ⟨by simp, uh hb1⟩
  go_wp2_with fail
  refine (uh H2 _ (uh hb1)).mono ?_
  rintro e w2 ⟨rfl, b2⟩
  have hb2 := hide ((uh hb1).trans (b2.mono (uh hb1).size))
  have hg2 := (b2.block _ (uh hs1)).trans (uh hg1)
  have hs2 := hide (Nat.lt_of_lt_of_le (uh hs1) b2.size)
  have c2 : w2.cell? ⟨w.heap.size, 0, none⟩ = some (.slice a n cap) := by rw [cell_of_row _ _ _ _ _ _ hg2]; rfl
  have hg2 := hide hg2
  clear b2 hg1 hs1 hb1 H2 c1
  cases q2
  · go_wp2
    go_ret
    exact ⟨by simp, uh hb2⟩
  go_wp2_with fail
  refine (uh H3 _ (uh hb2)).mono ?_
  rintro e w3 ⟨rfl, b3⟩
  have hb3 := hide ((uh hb2).trans (b3.mono (uh hb2).size))
  have hg3 := (b3.block _ (uh hs2)).trans (uh hg2)
  have c3 : w3.cell? ⟨w.heap.size, 0, none⟩ = some (.slice a n cap) := by rw [cell_of_row _ _ _ _ _ _ hg3]; rfl
  clear b3 hg2 hs2 hb2 H3 c2 hg3
  cases q3
  · go_wp2
    go_ret
    exact ⟨by simp, uh hb3⟩
  go_wp2_with fail
  refine (uh H4 _ (by trivial) (uh hb3)).mono ?_
  rintro e w4 ⟨rfl, b4⟩
  have hb4 := hide ((uh hb3).trans (b4.mono (uh hb3).size))
  clear b4 hb3 H4 c3
  go_wp2
  go_ret
  exact ⟨by simp, uh hb4⟩
end Go.Proofs.YtidhceebafmlkaaGreatDoor.Tr
