/- What Fold answers. -/
import Derived.Test.YtpfdjnnnemkoiabDoorCuFoldP
import Derived.Test.YtpfdjnnnemkoiabDoorCuIterS
import Derived.Test.YtpfdjnnnemkoiabDoorCuShelf
namespace Go.Proofs.YtpfdjnnnemkoiabDoor.Cu
open Go.RowKit Go.Shelf

attribute [local go_sem] Oper.semAt_some

theorem getD_data (t : ByteArray) (j : Nat) : (bs t).getD j 0 = t.data[j]! := by
  simp [bs, List.getD, getElem!_def]
  cases t.data[j]? <;> rfl
theorem blk_not {c : UInt8} (h1 : ((c.toNat : Nat) : Int) ≠ 32) (h2 : ((c.toNat : Nat) : Int) ≠ 9) : blk c = false := by
  simp [blk]
  exact ⟨fun e => h1 (by rw [e]; rfl), fun e => h2 (by rw [e]; rfl)⟩
theorem blk_is {c : UInt8} (h : ((c.toNat : Nat) : Int) = 32 ∨ ((c.toNat : Nat) : Int) = 9) : blk c = true := by
  simp [blk]
  rcases h with h | h
  · exact .inl (UInt8.toNat_inj.1 (by simpa using (by omega : c.toNat = 32)))
  · exact .inr (UInt8.toNat_inj.1 (by simpa using (by omega : c.toNat = 9)))
/-- the greater one of both places -/
theorem last_two (t : ByteArray) : (max (Lib.lastIndexByte t 32) (Lib.lastIndexByte t 9) = -1 ∧ psize t.size true (bs t) = t.size) ∨ ∃ i : Nat, i < t.size ∧ max (Lib.lastIndexByte t 32) (Lib.lastIndexByte t 9) = i ∧ psize t.size true (bs t) = i + 1 := by
  have h1 := Lib.lastIdx_spec t 32 t.size
  have h2 := Lib.lastIdx_spec t 9 t.size
  unfold Lib.lastIndexByte
  rcases h1 with ⟨e1, n1⟩ | ⟨i1, l1, e1, c1, n1⟩ <;> rcases h2 with ⟨e2, n2⟩ | ⟨i2, l2, e2, c2, n2⟩ <;> rw [e1, e2]
  · refine .inl ⟨rfl, ?_⟩
    have := cutAt_none (bs t) t.size (fun j hj => by rw [getD_data]; exact blk_not (n1 j hj) (n2 j hj))
    simp [psize, this]
  · refine .inr ⟨i2, l2, by omega, ?_⟩
    have := cutAt_some (bs t) i2 (by rw [getD_data]; exact blk_is (.inr c2)) t.size l2 (fun j h1 h2 => by rw [getD_data]; exact blk_not (n1 j h2) (n2 j h1 h2))
    simp [psize, this]
  · refine .inr ⟨i1, l1, by omega, ?_⟩
    have := cutAt_some (bs t) i1 (by rw [getD_data]; exact blk_is (.inl c1)) t.size l1 (fun j h1 h2 => by rw [getD_data]; exact blk_not (n1 j h1 h2) (n2 j h2))
    simp [psize, this]
  · rcases Nat.lt_or_ge i1 i2 with hlt | hge
    · refine .inr ⟨i2, l2, by omega, ?_⟩
      have := cutAt_some (bs t) i2 (by rw [getD_data]; exact blk_is (.inr c2)) t.size l2 (fun j h1 h2 => by rw [getD_data]; exact blk_not (n1 j (by omega) h2) (n2 j h1 h2))
      simp [psize, this]
    · refine .inr ⟨i1, l1, by omega, ?_⟩
      have := cutAt_some (bs t) i1 (by rw [getD_data]; exact blk_is (.inl c1)) t.size l1 (fun j h1 h2 => by rw [getD_data]; exact blk_not (n1 j h1 h2) (n2 j (by omega) h2))
      simp [psize, this]

set_option maxHeartbeats 1000000 in
theorem upto_any (t : ByteArray) (w : World) (ht : t.size ≤ 1073741824) :
    Calls Tryd.prog 50 #[.string t] w fun e w' => e = .returned (.int .i64 (psize t.size true (bs t))) ∧ w' = w := by
  have h1 := hide (Tryd.strings_LastIndexByte t 32 (by omega) w)
  have h2 := hide (Tryd.strings_LastIndexByte t 9 (by omega) w)
  have h3 := hide (last_two t)
  obtain ⟨x, hx⟩ : ∃ x, x = Lib.lastIndexByte t 32 := ⟨_, rfl⟩
  obtain ⟨y, hy⟩ : ∃ y, y = Lib.lastIndexByte t 9 := ⟨_, rfl⟩
  rw [← hx, ← hy] at h3
  rw [← hx] at h1
  rw [← hy] at h2
  clear hx hy
  rcases unhide h3 with ⟨hm, hp⟩ | ⟨i, hi, hm, hp⟩
  · rw [hp]
    clear h3 hp
    go_enter Tryd.func50, Tryd.ntmps50
    go_wp2_with (go_at_call 56; first | (refine (unhide h1).mono ?_; rintro e w' ⟨rfl, rfl⟩) | (refine (unhide h2).mono ?_; rintro e w' ⟨rfl, rfl⟩))
    go_ret
    exact ⟨rfl, rfl⟩
  · rw [hp]
    clear h3 hp
    have hi' : ((i + 1 : Nat) : Int) = (i : Int) + 1 := by omega
    rw [hi']
    clear hi'
    go_enter Tryd.func50, Tryd.ntmps50
    go_wp2_with (go_at_call 56; first | (refine (unhide h1).mono ?_; rintro e w' ⟨rfl, rfl⟩) | (refine (unhide h2).mono ?_; rintro e w' ⟨rfl, rfl⟩))
    go_ret
    exact ⟨rfl, rfl⟩

set_option maxHeartbeats 1000000 in
theorem eachPart_any (s : ByteArray) (n : Int) (bl : Bool) (w : World) :
    Calls Tryd.prog 31 #[.string s, .int .i64 n, .bool bl] w fun e w' => e = .returned (.func (.func 49) #[] #[.pointer (some ⟨w.heap.size, 0, none⟩), .pointer (some ⟨w.heap.size + 1, 0, none⟩), .pointer (some ⟨w.heap.size + 1 + 1, 0, none⟩)]) ∧ w' = ((w.alloc (.cells #[.string s] 9)).alloc (.cells #[.int .i64 n] 3)).alloc (.cells #[.bool bl] 4) := by
  have hmf : ∀ (fn : Fn) (first cap : Array Value) (w : World), (Instr.makeFunc fn first cap).run Tryd.prog w = .ok (.func fn first cap) w := fun _ _ _ _ => rfl
  go_enter Tryd.func31, Tryd.ntmps31
  go_wp2
  go_ret
  exact ⟨rfl, rfl⟩

def strLen : Value → Nat
  | .string t => t.size
  | _ => 0
theorem upto_ext (t : ByteArray) (n : Nat) (h : n ≤ t.size) : (t.extract 0 n).size = n ∧ psize n true (bs (t.extract 0 n)) = psize n true (bs t) := by
  have hl : (t.extract 0 n).size = n := by rw [← bs_len, bs_to, List.length_take, bs_len]; omega
  refine ⟨hl, ?_⟩
  unfold psize
  rw [bs_to, cutAt_take _ _ _ (Nat.le_refl _)]
theorem bt_bs (t : ByteArray) : bt (bs t) = t := rfl
set_option maxRecDepth 100000 in
set_option maxHeartbeats 2000000 in
theorem eachPart_itr (b b2 b3 : Nat) (s : ByteArray) (n : Nat) (bl : Bool) (hs : s.size ≤ 1073741824) (hn1 : 1 ≤ n) (hn2 : n ≤ 65536) (rd : World → Prop) (hrd : ∀ W, rd W → Boxed W b 9 (.string s) ∧ Boxed W b2 3 (.int .i64 n) ∧ Boxed W b3 4 (.bool bl)) :
    Rng.Itr Tryd.prog 49 #[.pointer (some ⟨b, 0, none⟩), .pointer (some ⟨b2, 0, none⟩), .pointer (some ⟨b3, 0, none⟩)] encS (foldL n bl (bs s)) rd := by
  intro l J0 Jx0 W hJ0 hJx0 hJr0 hY0 h00
  obtain ⟨J, eJ⟩ : ∃ J, J = J0 W.heap.size := ⟨_, rfl⟩
  obtain ⟨Jx, eJx⟩ : ∃ Jx, Jx = Jx0 W.heap.size := ⟨_, rfl⟩
  have hJ : OwnFrom W.heap.size J := eJ ▸ hJ0 W.heap.size
  have hJr : ∀ pre W1, J pre W1 → rd W1 := fun pre W1 h => hJr0 _ pre W1 (eJ ▸ h)
  have hY : ∀ m pre x W1, W.heap.size ≤ W1.heap.size → J pre W1 → pre ++ [x] <+: foldL n bl (bs s) → YieldAt Fence.wide m Tryd.prog l (encS x) W1 fun e W' =>
      W1.heap.size ≤ W'.heap.size ∧ ((e = .returned (.bool true) ∧ J (pre ++ [x]) W') ∨ (e = .returned (.bool false) ∧ Jx (pre ++ [x]) W')) := fun m pre x W1 h1 h2 h3 => by
    subst eJ eJx
    exact (hY0 m W.heap.size pre x W1 (Nat.le_refl _) h1 h2 h3).mono (fun e W' h => ⟨h.1.1, h.2⟩)
  have h0 : J [] W := eJ ▸ h00 _
  refine Calls.mono (R := fun e W' => (∃ v, e = .returned v) ∧ (J (foldL n bl (bs s)) W' ∨ ∃ pre, pre <+: foldL n bl (bs s) ∧ Jx pre W')) ?_ (fun e W' h => by subst eJ eJx; exact ⟨h.1, W.heap.size, Nat.le_refl _, h.2⟩)
  clear hJ0 hJx0 hJr0 hY0 h00 eJ eJx
  have hr0 := (hrd _ (hJr _ _ h0)).1.cell
  refine (callsIn_wide (n := 3)).1 ?_
  refine callsIn_of_wp Tryd.func49 rfl trivial ?_ rfl
  simp only [Tryd.ntmps49, List.size_toArray, List.length_cons, List.length_nil, Nat.reduceAdd, Nat.reduceSub, Array.replicate_succ, Array.replicate_zero, List.push_toArray, List.append_toArray, List.nil_append, List.cons_append]
  have HY := hide hY
  have HJ := hide hJ
  have HJr := hide hJr
  clear hY hJr hJ
  gi_wp2
  clear hr0
  gi_loopw [5] (fun v wr => ∃ (t : ByteArray) (pre : List Bs), v = .string t ∧ t.size ≤ s.size ∧ Hid (foldL n bl (bs s) = pre ++ foldL n bl (bs t)) ∧ Hid (J pre wr) ∧ W.heap.size ≤ wr.heap.size)
    (fun v _ => strLen v)
  case atStart => exact ⟨s, [], rfl, Nat.le_refl _, rfl, h0, Nat.le_refl _⟩
  case round =>
    obtain ⟨t, pre, rfl, hts, hcut, hJw, hWs⟩ := hrel
    have hr2 := (hrd _ (unhide HJr _ _ (unhide hJw))).2.1.cell
    have hr3 := (hrd _ (unhide HJr _ _ (unhide hJw))).2.2.cell
    by_cases hlt : n < t.size
    · have hlt' : (n : Int) < (t.size : Int) := by omega
      obtain ⟨hk1, hk2⟩ := psize_le n bl (bs t) hn1
      have hx : Hid (foldL n bl (bs s) = (pre ++ [(bs t).take (psize n bl (bs t))]) ++ foldL n bl ((bs t).drop (psize n bl (bs t)))) := by
        rw [unhide hcut, foldL_step n bl (bs t) hn1 (by rw [bs_len]; exact hlt)]; simp [Hid]
      obtain ⟨k, hk⟩ : ∃ k, k = psize n bl (bs t) := ⟨_, rfl⟩
      rw [← hk] at hx hk1 hk2
      have hHY : ∀ W1, W.heap.size ≤ W1.heap.size → J pre W1 → YieldAt Fence.wide 2 Tryd.prog l #[.string (t.extract 0 k)] W1 fun e W' =>
        W1.heap.size ≤ W'.heap.size ∧ ((e = .returned (.bool true) ∧ J (pre ++ [(bs t).take k]) W') ∨ (e = .returned (.bool false) ∧ Jx (pre ++ [(bs t).take k]) W')) := fun W1 h1 h2 => by
          have := unhide HY 2 pre ((bs t).take k) W1 h1 h2 (by rw [unhide hx]; exact List.prefix_append _ _)
          rw [encS, show bt ((bs t).take k) = t.extract 0 k by rw [bt_extract]; rfl] at this
          exact this
      have hbx : Hid (bs (t.extract k t.size) = (bs t).drop k) := bs_from t k
      have hsx : (t.extract k t.size).size = t.size - k := size_from t k
      clear hcut
      have HYY := hide hHY
      clear hHY
      cases bl
      · obtain rfl : k = n := by rw [hk]; simp [psize]
        clear hk
        obtain ⟨fn, tmps, assign, body, hy, hR⟩ := unhide HYY wr hWs (unhide hJw)
        gi_wp2
        refine hR.mono ?_
        rintro e W3 ⟨hW3, (⟨rfl, hJ3⟩ | ⟨rfl, hJx3⟩)⟩
        · have hJ3' := hide hJ3
          clear hJ3 hR hy hr2 hr3
          gi_wp2
          go_roundw
          case rel => exact ⟨t.extract k t.size, _, rfl, by omega, by rw [unhide hbx]; exact hx, hJ3', Nat.le_trans hWs hW3⟩
          case measure => simp only [strLen]; omega
        · have hJ3' := hide hJx3
          clear hJx3 hR hy hr2 hr3
          gi_wp2
          refine bodyPost_ret (results_none rfl _ _ _) rfl ?_
          exact ⟨⟨_, rfl⟩, .inr ⟨_, (by rw [unhide hx]; exact List.prefix_append _ _), unhide hJ3'⟩⟩
      · obtain ⟨hz, hp⟩ := upto_ext t n (by omega)
        have C := hide (upto_any (t.extract 0 n) wr (by rw [hz]; omega))
        rw [hz, hp, ← hk] at C
        clear hz hp hk
        gi_wp2_with (refine ⟨trivial, ?_⟩; gi_at_call 50; refine (callsIn_wide.2 (unhide C)).mono ?_; rintro e w' ⟨rfl, rfl⟩; clear C; obtain ⟨fn, tmps, assign, body, hy, hR⟩ := unhide HYY w' hWs (unhide hJw))
        refine hR.mono ?_
        rintro e W3 ⟨hW3, (⟨rfl, hJ3⟩ | ⟨rfl, hJx3⟩)⟩
        · have hJ3' := hide hJ3
          clear hJ3 hR hy hr2 hr3
          gi_wp2
          go_roundw
          case rel => exact ⟨t.extract k t.size, _, rfl, by omega, by rw [unhide hbx]; exact hx, hJ3', Nat.le_trans hWs hW3⟩
          case measure => simp only [strLen]; omega
        · have hJ3' := hide hJx3
          clear hJx3 hR hy hr2 hr3
          gi_wp2
          refine bodyPost_ret (results_none rfl _ _ _) rfl ?_
          exact ⟨⟨_, rfl⟩, .inr ⟨_, (by rw [unhide hx]; exact List.prefix_append _ _), unhide hJ3'⟩⟩
    · have hge : ¬ (n : Int) < (t.size : Int) := by omega
      have hx : Hid (foldL n bl (bs s) = pre ++ [bs t]) := by rw [unhide hcut, foldL_end n bl (bs t) (by rw [bs_len]; omega)]; exact rfl
      obtain ⟨fn, tmps, assign, body, hy, hR⟩ := unhide HY 2 pre (bs t) wr hWs (unhide hJw) (by rw [unhide hx]; exact List.prefix_refl _)
      rw [encS, bt_bs] at hy
      clear hcut
      gi_wp2
      refine hR.mono ?_
      rintro e W3 ⟨hW3, (⟨rfl, hJ3⟩ | ⟨rfl, hJx3⟩)⟩
      · have hJ3' := hide hJ3
        clear hJ3 hR hy
        gi_wp2
        go_end0
        exact ⟨⟨_, rfl⟩, .inl (by rw [unhide hx]; exact unhide hJ3')⟩
      · have hJ3' := hide hJx3
        clear hJx3 hR hy
        gi_wp2
        go_end0
        exact ⟨⟨_, rfl⟩, .inr ⟨_, (by rw [unhide hx]; exact List.prefix_refl _), unhide hJ3'⟩⟩

abbrev RowS (B : Nat) (v : Value) (xs : List Bs) (w : World) : Prop := w.ownsRow B 9 1 v xs.length (cellsS xs)
set_option maxRecDepth 100000 in
set_option maxHeartbeats 1000000 in
theorem fold_bad (s : ByteArray) (n : Int) (bl : Bool) (w : World) (h : n < 1 ∨ 65536 < n) :
    Calls Tryd.prog 13 #[.string s, .int .i64 n, .bool bl] w fun e w' => e = .returned (.tuple #[.slice none 0 0, .int .i64 1]) ∧ w' = w := by
  by_cases h1 : n < 1
  · clear h
    go_enter Tryd.func13, Tryd.ntmps13
    go_wp2_with fail
    go_ret2
    exact ⟨rfl, rfl⟩
  · have h2 : 65536 < n := by omega
    clear h
    go_enter Tryd.func13, Tryd.ntmps13
    go_wp2_with fail
    go_ret2
    exact ⟨rfl, rfl⟩
set_option maxRecDepth 100000 in
set_option maxHeartbeats 1000000 in
theorem fold_any (s : ByteArray) (n : Nat) (bl : Bool) (w : World) (hn1 : 1 ≤ n) (hn2 : n ≤ 65536) (hs : s.size ≤ 1073741823) :
    Calls Tryd.prog 13 #[.string s, .int .i64 n, .bool bl] w fun e w' => ∃ v, e = .returned (.tuple #[v, .int .i64 0]) ∧ RowS w.heap.size v (foldL n bl (bs s)) w' ∧ Below w.heap.size w w' := by
  have h1 : ¬ (n : Int) < 1 := by omega
  have h2 : ¬ 65536 < (n : Int) := by omega
  go_enter Tryd.func13, Tryd.ntmps13
  go_wp2_with (go_at_call 31; refine (eachPart_any _ _ _ _).mono ?_; rintro e w' ⟨rfl, rfl⟩)
  have b1 := ((Boxed.new w 9 (.string s)).alloc (.cells #[.int .i64 n] 3)).alloc (.cells #[.bool bl] 4)
  have b2 := (Boxed.new (w.alloc (.cells #[.string s] 9)) 3 (.int .i64 n)).alloc (.cells #[.bool bl] 4)
  have b3 := Boxed.new ((w.alloc (.cells #[.string s] 9)).alloc (.cells #[.int .i64 n] 3)) 4 (.bool bl)
  have hB0 : Below w.heap.size w (((w.alloc (.cells #[.string s] 9)).alloc (.cells #[.int .i64 n] 3)).alloc (.cells #[.bool bl] 4)) := (((Below.refl _ w).alloc (Nat.le_refl _) _).alloc (by simp) _).alloc (by simp; omega) _
  have hsz : (((w.alloc (.cells #[.string s] 9)).alloc (.cells #[.int .i64 n] 3)).alloc (.cells #[.bool bl] 4)).heap.size = w.heap.size + 3 := by simp
  simp only [World.size_alloc] at b1 b2 b3
  generalize (((w.alloc (.cells #[.string s] 9)).alloc (.cells #[.int .i64 n] 3)).alloc (.cells #[.bool bl] 4)) = W0 at *
  have hlen : (foldL n bl (bs s)).length ≤ 1073741824 := by have := foldL_len n bl hn1 _ (bs s) (Nat.le_refl _); rw [bs_len] at this; omega
  have H := hide (collectS_any 49 _ (foldL n bl (bs s)) _ W0 (enters_of Tryd.func49 (by kernel_rfl) rfl)
    (eachPart_itr w.heap.size (w.heap.size + 1) (w.heap.size + 1 + 1) s n bl (by omega) hn1 hn2 (fun W => Boxed W w.heap.size 9 (.string s) ∧ Boxed W (w.heap.size + 1) 3 (.int .i64 n) ∧ Boxed W (w.heap.size + 1 + 1) 4 (.bool bl)) (fun W h => h)).two
    (fun W h => ⟨boxed_below h b1 (by omega), boxed_below h b2 (by omega), boxed_below h b3 (by omega)⟩) hlen)
  refine (unhide H).mono ?_
  rintro e w1 ⟨v, rfl, hO, hB⟩
  have hBw : Below w.heap.size w w1 := hB0.trans (hB.mono hB0.size)
  have hO2 : Hid (RowS w.heap.size v (foldL n bl (bs s)) w1) := own_base' hO (by omega)
  clear H b1 b2 b3 hO
  go_wp2_with fail
  go_ret2
  exact ⟨v, rfl, unhide hO2, hBw⟩
end Go.Proofs.YtpfdjnnnemkoiabDoor.Cu
