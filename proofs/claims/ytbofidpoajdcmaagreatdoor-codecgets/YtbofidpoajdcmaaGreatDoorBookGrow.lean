/- What growText leaves: every list of texts has grown by forty marks. -/
import Derived.Test.YtbofidpoajdcmaaGreatDoorBookFill
import Derived.ArgAppend
namespace Go.Proofs.YtbofidpoajdcmaaGreatDoor.Bk
open Go.RowKit

theorem Tryz.infoStr : (Tryz.prog.info? 9).map (fun i => (i.zero, i.size, i.bytes)) = some (some (.string ByteArray.empty), 1, 16) := by kernel_rfl

/-- 'append(v, x)', v an owned row: it stays at its place, or it lies in a new block and nothing old has turned -/
theorem wpList_append_two {P : Program} (w : World) {ops : Array Oper} {rest : List Oper} {o : Oper} {a : Act} {Q : Exit → Act → World → Prop} (hgd : o.guard = none) (s x : Operand) (t : TypeId)
    (ho : o.op = .call { callee := .builtin .append, args := #[s, x], argTypes := #[t, t] })
    (e : TypeId) (i : TypeInfo) (z : Value) (size bytes : Nat) (ht : P.underlying t = some (.slice e)) (hi : P.info? e = some i) (hz : i.zero = some z)
    (hsize : i.size = size) (hby : i.bytes = bytes) (hzs : z.cells.size = size) (hsz : 0 < size)
    (v : Value) (n : Nat) (xs : List Value) (hs : a.eval s = v) (hown : w.ownsRow 0 e size v n xs)
    (ad : Addr) (m c : Nat) (news : List Value) (hx : a.eval x = .slice (some ad) m c) (hl : news.length = m * size) (hnews : ∀ j u, news[j]? = some u → w.cell? (ad.add j) = some u) (h1 : ∀ u ∈ news, u.oneCell' = true)
    (h63 : n + m ≤ maxLen) (hbytes : (n + m) * bytes ≤ 140737488355328)
    (h : ∀ v' w', w'.ownsRow 0 e size v' (n + m) (xs ++ news) → ((∃ g cap, v = .slice (some ⟨g, 0, none⟩) n cap ∧ v' = .slice (some ⟨g, 0, none⟩) (n + m) cap ∧ w.grownBy w' (some g)) ∨ ((∀ b, v'.ownBlock = some b → w.heap.size ≤ b) ∧ w.grownBy w' none)) → wpList P ops Q rest (a.put o.dst v') w') :
    wpList P ops Q (o :: rest) a w := by
  have hrun : ∃ v' w', (Builtin.append_ #[t, t] o.type #[v, .slice (some ad) m c]).run P w = .ok v' w' ∧ w'.ownsRow 0 e size v' (n + m) (xs ++ news) ∧
      ((∃ g cap, v = .slice (some ⟨g, 0, none⟩) n cap ∧ v' = .slice (some ⟨g, 0, none⟩) (n + m) cap ∧ w.grownBy w' (some g)) ∨ ((∀ b, v'.ownBlock = some b → w.heap.size ≤ b) ∧ w.grownBy w' none)) := by
    rcases hown.2 with ⟨rfl, rfl⟩ | ⟨g, cap, cur, rfl, _, hg, hnc, _⟩
    · have hx0 : xs = [] := List.eq_nil_of_length_eq_zero (by simpa using hown.1)
      subst hx0
      obtain ⟨v', w', r1, r2, r3, _⟩ := run_append_own (P := P) w w.heap.size t o.type e i z size bytes ht hi hz hsize hby hzs hsz (.slice none 0 0) 0 [] (World.ownsRow_nil _ _ _ _) ad m c news hl hnews h1 h63 hbytes (Nat.le_refl _)
      exact ⟨v', w', r1, own_base r2 (Nat.zero_le _), .inr ⟨fun b hb => (r2.lt b hb).1, r3⟩⟩
    · by_cases hroom : n + m ≤ cap
      · obtain ⟨w', r1, r2, r3⟩ := run_append_fits (P := P) w 0 t o.type e i size ht hi hsize g n cap xs hown ad m c news hl hnews h1 hroom
        exact ⟨_, w', r1, r2, .inl ⟨g, cap, rfl, rfl, r3⟩⟩
      · obtain ⟨v', w', r1, r2, r3⟩ := run_append_arg_grows (P := P) w t o.type e i z size bytes ht hi hz hsize hby hzs hsz ⟨g, 0, none⟩ n cap xs hown.1 (hown.cells (g := g) rfl) ad m c news hl hnews (by omega) h63 hbytes
        exact ⟨v', w', r1, own_base r2 (Nat.zero_le _), .inr ⟨fun b hb => (r2.lt b hb).1, r3⟩⟩
  obtain ⟨v', w', r1, r2, r3⟩ := hrun
  refine wpList_plain hgd fun K hK => ?_
  unfold Oper.wp
  simp [execOp, ho, resolve, invoke, builtin, hs, hx, r1, Result.andThen]
  exact hK _ _ (h v' w' r2 r3)

/-- a row that lies at the head of a longer one of the same place stays, as the longer one grows -/
theorem own_head {w w' : World} {e : TypeId} {s n n' c c' g : Nat} {N : Nat} {xs ys zs : List Value} (hs : 0 < s) (h1 : w.ownsRow 0 e s (.slice (some ⟨g, 0, none⟩) N c) N xs) (h2 : w.ownsRow 0 e s (.slice (some ⟨g, 0, none⟩) n c') n ys)
    (h3 : w'.ownsRow 0 e s (.slice (some ⟨g, 0, none⟩) n' c') n' zs) (hN : N ≤ n') (hz : zs.take (N * s) = xs) : w'.ownsRow 0 e s (.slice (some ⟨g, 0, none⟩) N c) N xs := by
  rcases h1.2 with ⟨h, _⟩ | ⟨g1, k1, cur1, e1, _, b1, l1, m1, s1, t1⟩
  · cases h
  rcases h2.2 with ⟨h, _⟩ | ⟨g2, k2, cur2, e2, _, b2, l2, m2, s2, t2⟩
  · cases h
  rcases h3.2 with ⟨h, _⟩ | ⟨g3, k3, cur3, e3, _, b3, l3, m3, s3, t3⟩
  · cases h
  simp at e1 e2 e3
  obtain ⟨rfl, rfl⟩ := e1
  obtain ⟨rfl, rfl⟩ := e2
  obtain ⟨rfl, rfl⟩ := e3
  rw [b1] at b2
  simp at b2
  subst b2
  have hc : c = c' := Nat.eq_of_mul_eq_mul_right hs (s1.symm.trans s2)
  subst hc
  refine ⟨h1.1, .inr ⟨g, c, cur3, rfl, Nat.zero_le _, b3, l1, m1, s3, ?_⟩⟩
  rw [← hz, ← t3, List.take_take]
  congr 1
  exact (Nat.min_eq_left (Nat.mul_le_mul_right _ hN)).symm

theorem held_set (V G : Nat → Value) (M : Nat → Nat) (k i : Nat) (x : Value) (h : i < k) : (held V G M k).set (i * 3 + 1) x = held V (fun j => if j = i then x else G j) M k := by
  induction k with
  | zero => omega
  | succ k ih =>
    have hl := held_length V G M k
    simp only [held]
    by_cases e : i < k
    · rw [List.set_append_left _ _ (by omega), ih e]
      simp [show ¬ k = i from by omega]
    · obtain rfl : i = k := by omega
      rw [List.set_append_right _ _ (by omega), hl]
      have hc : ∀ m, m ≤ i → held V G M m = held V (fun j => if j = i then x else G j) M m := by
        intro m
        induction m with
        | zero => intro _; rfl
        | succ m ihm => intro hm; simp only [held]; rw [ihm (by omega)]; simp [show ¬ m = i from by omega]
      rw [hc i (Nat.le_refl _), show i * 3 + 1 - i * 3 = 1 from by omega]
      simp

/-- one append of a mark: what holds behind it -/
theorem grow_step {wH wy w' : World} {E : TypeId} {s N q : Nat} {Vi v v' : Value} {mk : List Value} (o : Obj) (hs : mk.length = s) (hs0 : 0 < s) (h1 : wy.ownsRow 0 E s v (N + q) (marks mk (N + q))) (h2 : wy.ownsRow 0 E s Vi N (marks mk N))
    (h3 : ∀ b, v.ownBlock = some b → Vi.ownBlock = some b ∨ wH.heap.size ≤ b) (h4 : Touch (fun b => Vi.ownBlock = some b) wH wy) (hVb : ∀ b, Vi.ownBlock = some b → b < wH.heap.size)
    (hr : w'.ownsRow 0 E s v' (N + q + 1) (marks mk (N + q) ++ mk))
    (hc : (∃ g cap, v = .slice (some ⟨g, 0, none⟩) (N + q) cap ∧ v' = .slice (some ⟨g, 0, none⟩) (N + q + 1) cap ∧ (wy.alloc o).grownBy w' (some g)) ∨ ((∀ b, v'.ownBlock = some b → (wy.alloc o).heap.size ≤ b) ∧ (wy.alloc o).grownBy w' none)) :
    w'.ownsRow 0 E s v' (N + (q + 1)) (marks mk (N + (q + 1))) ∧ w'.ownsRow 0 E s Vi N (marks mk N) ∧ (∀ b, v'.ownBlock = some b → Vi.ownBlock = some b ∨ wH.heap.size ≤ b) ∧ Touch (fun b => Vi.ownBlock = some b) wH w' := by
  have hr' : w'.ownsRow 0 E s v' (N + (q + 1)) (marks mk (N + (q + 1))) := hr
  refine ⟨hr', ?_⟩
  rcases hc with ⟨g, cap, rfl, rfl, hg⟩ | ⟨hb, hg⟩
  · have hgt := h3 g rfl
    refine ⟨?_, fun b hb => h3 b hb, (h4.alloc o).grown hg (fun k hk hlt => ?_)⟩
    · by_cases e : Vi.ownBlock = some g
      · rcases h2.2 with ⟨rfl, _⟩ | ⟨g2, c2, cur2, rfl, _⟩
        · simp [Value.ownBlock] at e
        · simp [Value.ownBlock] at e
          subst e
          refine own_head hs0 h2 h1 hr' (by omega) ?_
          have hm : marks mk (N + (q + 1)) = marks mk N ++ marks mk (q + 1) := marks_add mk N (q + 1)
          rw [hm]
          have hl : (marks mk N).length = N * s := by rw [marks_length, hs]
          rw [← hl]
          exact List.take_left
      · refine (h2.alloc o).kept hg ?_
        cases hv : Vi.ownBlock with
        | none => exact .inl rfl
        | some x => exact .inr (fun e' => e (by rw [hv]; exact e'))
    · cases hk
      rcases hgt with h | h
      · exact h
      · omega
  · have hsz := h4.size
    refine ⟨(h2.alloc o).kept hg (by cases Vi.ownBlock <;> simp), fun b hb' => .inr (by have := hb b hb'; simp at this; omega), (h4.alloc o).grown hg (by simp)⟩

set_option maxHeartbeats 1000000 in
set_option maxRecDepth 100000 in
theorem growText_any (P k : Nat) (u : Value) (cur : List Value) (V : Nat → Value) (M N : Nat → Nat) (w : World) (hB : Own w P cur) (h3 : cur[3]? = some u) (hu : w.ownsRow 0 121 3 u k (held V (fun _ => .slice none 0 0) M k))
    (hR : Rows1 w 9 1 k V N (fun i => marks [.string (wd (M i))] (N i))) (hM : ∀ i, i < k → M i < 100) (hN : ∀ i, i < k → N i ≤ 4194304) (hk : k ≤ 1000000) :
    Calls Tryz.prog 55 #[.pointer (some ⟨P, 0, none⟩)] w fun e w' => e = .returned (.tuple #[]) ∧ (∃ G : Nat → Value, w'.ownsRow 0 121 3 u k (held V G M k) ∧ (∀ j, j < k → w'.ownsRow 0 9 1 (G j) (N j + 40) (marks [.string (wd (M j))] (N j + 40)))) ∧
      (∀ j, j < k → w'.ownsRow 0 9 1 (V j) (N j) (marks [.string (wd (M j))] (N j))) ∧ Touch (fun b => (∃ i, i < k ∧ (V i).ownBlock = some b) ∨ u.ownBlock = some b) w w' := by
  obtain ⟨i1, hi1, hy0, hy1, hy2⟩ := info_parts Tryz.infoStr
  have c3 : w.cell? ⟨P, 3, none⟩ = some u := (hB.cellAt 3 (by omega)).trans h3
  have hPlt : P < w.heap.size := (own_block hB P rfl).1
  have HB := hide hB
  have HU := hide hu
  have HR := hide hR
  have HM := hide hM
  have HN := hide hN
  have HVb : Hid (∀ j, j < k → ∀ b, (V j).ownBlock = some b → b < w.heap.size) := fun j hj b hb => (own_block (hR.own j hj) b hb).1
  obtain ⟨ua, uc, rfl⟩ := own_shape hu
  clear hB hu hR hM hN h3
  go_enter Tryz.func55, Tryz.ntmps55
  go_wp2
  go_loopw [2] (fun s2 wr => ∃ (i : Nat) (G : Nat → Value), i ≤ k ∧ s2 = .int .i64 i ∧ Hid (∀ j, i ≤ j → G j = .slice none 0 0) ∧ Hid (wr.ownsRow 0 121 3 (.slice ua k uc) k (held V G M k)) ∧
      Hid (∀ j, j < i → wr.ownsRow 0 9 1 (G j) (N j + 40) (marks [.string (wd (M j))] (N j + 40)) ∧ ∀ b, (G j).ownBlock = some b → (V j).ownBlock = some b ∨ w.heap.size ≤ b) ∧
      Hid (∀ j, j < k → wr.ownsRow 0 9 1 (V j) (N j) (marks [.string (wd (M j))] (N j))) ∧
      Hid (Touch (fun b => (∃ i, i < k ∧ (V i).ownBlock = some b) ∨ (Value.slice ua k uc).ownBlock = some b) w wr)) (fun s2 _ => k - (intOf s2).toNat)
  case atStart => exact ⟨0, fun _ => .slice none 0 0, Nat.zero_le _, rfl, fun _ _ => rfl, HU, fun j hj => absurd hj (Nat.not_lt_zero _), (unhide HR).own, Touch.refl _ _⟩
  case round =>
    obtain ⟨i, G, hik, rfl, hGn, hUr, hG, hV, hTo⟩ := hrel
    obtain ⟨wo, hwo⟩ : ∃ wo : World, wo = wr := ⟨_, rfl⟩
    subst hwo
    have c3r : wo.cell? ⟨P, 3, none⟩ = some (.slice ua k uc) := (unhide hTo).cell c3 (fun h => by
      rcases h with ⟨j, hj, e⟩ | e
      · exact own_ne ((unhide HR).own j hj) (unhide HB) (by decide) P e rfl
      · exact own_ne (unhide HU) (unhide HB) (by decide) P e rfl)
    by_cases hlt : i < k
    · obtain ⟨gu, rfl, _⟩ := row_at (unhide HU) (by omega)
      obtain ⟨e1, e2, e3⟩ := held_get V G M k i hlt
      rw [unhide hGn i (Nat.le_refl _)] at e2
      obtain ⟨va, vc, hv⟩ := own_shape ((unhide HR).own i hlt)
      have d1 : wo.cell? ⟨gu, i * 3, none⟩ = some (.slice va (N i) vc) := ((unhide hUr).cellAt (i * 3) (by omega)).trans (hv ▸ e1)
      have d2 : wo.cell? ⟨gu, i * 3 + 1, none⟩ = some (.slice none 0 0) := ((unhide hUr).cellAt (i * 3 + 1) (by omega)).trans e2
      have d3 : wo.cell? ⟨gu, i * 3 + 2, none⟩ = some (.int .i64 (M i)) := ((unhide hUr).cellAt (i * 3 + 2) (by omega)).trans e3
      have hn := unhide HN i hlt
      have HV := hide hv
      clear e1 e2 e3 hv
      go_wp2
      obtain ⟨wH, hwH⟩ : ∃ wH, wH = wo.alloc (.cells #[.slice va (N i) vc, .slice none 0 0, .int .i64 (M i)] 121) := ⟨_, rfl⟩
      have q2 : wH.cell? ⟨wo.heap.size, 2, none⟩ = some (.int .i64 (M i)) := by rw [hwH]; simp
      have TH : Hid (Touch (fun b => (∃ i, i < k ∧ (V i).ownBlock = some b) ∨ (Value.slice (some ⟨gu, 0, none⟩) k uc).ownBlock = some b) w wH) := by rw [hwH]; exact (unhide hTo).alloc _
      have oH : Hid (∀ j e s v n xs, wo.ownsRow j e s v n xs → wH.ownsRow j e s v n xs) := by rw [hwH]; exact fun j e s v n xs h => h.alloc _
      have hbi : Hid (∀ b, (Value.slice va (N i) vc).ownBlock = some b → b < w.heap.size) := fun b hb => unhide HVb i hlt b (unhide HV ▸ hb)
      have hsw : Hid (w.heap.size ≤ wo.heap.size) := (unhide hTo).size
      have HSH : Hid (wH.heap.size = wo.heap.size + 1) := by rw [hwH]; simp [Hid]
      rw [← hwH]
      clear hwH d1 d2 d3
      go_loopw [4, 5] (fun s4 s5 wy => ∃ q : Nat, q ≤ 40 ∧ s5 = .int .i64 q ∧ Hid (wy.ownsRow 0 9 1 s4 (N i + q) (marks [.string (wd (M i))] (N i + q))) ∧ Hid (wy.ownsRow 0 9 1 (.slice va (N i) vc) (N i) (marks [.string (wd (M i))] (N i))) ∧
          Hid (∀ b, s4.ownBlock = some b → (Value.slice va (N i) vc).ownBlock = some b ∨ wH.heap.size ≤ b) ∧ Hid (Touch (fun b => (Value.slice va (N i) vc).ownBlock = some b) wH wy)) (fun _ s5 _ => 40 - (intOf s5).toNat)
      case atStart =>
        have := unhide oH _ _ _ _ _ _ (unhide hV i hlt)
        rw [unhide HV] at this
        exact ⟨0, by omega, rfl, this, this, fun b hb => .inl hb, Touch.refl _ _⟩
      case round =>
        obtain ⟨q, hq, rfl, hO, hOv, hLoc, hTy⟩ := hrel
        have q2' : wr.cell? ⟨wo.heap.size, 2, none⟩ = some (.int .i64 (M i)) := (unhide hTy).cell q2 (fun e => by have := unhide hbi _ e; have := unhide hsw; simp at *; omega)
        by_cases hq40 : q < 40
        · obtain ⟨la, lc, rfl⟩ := own_shape (unhide hO)
          obtain ⟨x, hx⟩ : ∃ x, wd (M i) = x := ⟨_, rfl⟩
          have HC : Hid (∀ w, Calls Tryz.prog 100 #[.int .i64 (M i)] w fun e w' => e = .returned (.string x) ∧ w' = w) := fun w => hx ▸ markText_any (M i) w (unhide HM i hlt)
          have hgs : Hid (∀ o v' w', w'.ownsRow 0 9 1 v' (N i + q + 1) (marks [.string x] (N i + q) ++ [.string x]) → ((∃ g cap, Value.slice la (N i + q) lc = .slice (some ⟨g, 0, none⟩) (N i + q) cap ∧ v' = .slice (some ⟨g, 0, none⟩) (N i + q + 1) cap ∧ (wr.alloc o).grownBy w' (some g)) ∨ ((∀ b, v'.ownBlock = some b → (wr.alloc o).heap.size ≤ b) ∧ (wr.alloc o).grownBy w' none)) →
              w'.ownsRow 0 9 1 v' (N i + (q + 1)) (marks [.string x] (N i + (q + 1))) ∧ w'.ownsRow 0 9 1 (.slice va (N i) vc) (N i) (marks [.string x] (N i)) ∧ (∀ b, v'.ownBlock = some b → (Value.slice va (N i) vc).ownBlock = some b ∨ wH.heap.size ≤ b) ∧ Touch (fun b => (Value.slice va (N i) vc).ownBlock = some b) wH w') := by
            intro o v' w' h1 h2
            have hO' := unhide hO
            have hOv' := unhide hOv
            rw [hx] at hO' hOv'
            exact grow_step o rfl (by decide) hO' hOv' (unhide hLoc) (unhide hTy) (fun b hb => by have := unhide hbi b hb; have := unhide hsw; have := unhide HSH; omega) h1 h2
          have hOx : Hid (wr.ownsRow 0 9 1 (.slice la (N i + q) lc) (N i + q) (marks [.string x] (N i + q))) := hx ▸ unhide hO
          have HX := hide hx
          clear hx hO hOv hLoc hTy
          go_wp2_with fail
          refine (unhide HC _).mono ?_
          rintro e w' ⟨rfl, hw'⟩
          rw [hw']
          clear hw'
          go_wp2_with (at_builtin; refine wpList_append_two _ rfl _ _ 119 rfl 9 i1 _ 1 16 Tryz.underlying119 hi1 hy0 hy1 hy2 rfl (by decide) _ _ _ rfl ((unhide hOx).alloc _) ⟨wr.heap.size, 0, none⟩ 1 1 [.string x] rfl rfl (cell_one_new _ _ _) (by intro u hu; simp at hu; subst hu; rfl) (by unfold maxLen; omega) (by omega) ?_; intro v' w2 hr2 hc2; have HS2 := hide (unhide hgs _ v' w2 hr2 hc2); clear hr2 hc2)
          go_roundw
          case rel => exact ⟨q + 1, by omega, by go_num, by rw [unhide HX]; exact (unhide HS2).1, by rw [unhide HX]; exact (unhide HS2).2.1, (unhide HS2).2.2.1, (unhide HS2).2.2.2⟩
          case measure => simp [intOf]; omega
        · obtain rfl : q = 40 := by omega
          obtain ⟨la, lc, rfl⟩ := own_shape (unhide hO)
          have hneT : ∀ b, (Value.slice (some ⟨gu, 0, none⟩) k uc).ownBlock = some b → ¬ (Value.slice va (N i) vc).ownBlock = some b := fun b h1 h2 => own_ne ((unhide HR).own i hlt) (unhide HU) (by decide) b (by rw [unhide HV]; exact h2) h1
          have hUy := (unhide hTy).own (unhide oH _ _ _ _ _ _ (unhide hUr)) hneT
          have c3y : wr.cell? ⟨P, 3, none⟩ = some (.slice (some ⟨gu, 0, none⟩) k uc) := by
            have hP : ¬ (Value.slice va (N i) vc).ownBlock = some P := fun e => own_ne ((unhide HR).own i hlt) (unhide HB) (by decide) P (by rw [unhide HV]; exact e) rfl
            have hPo : wH.cell? ⟨P, 3, none⟩ = some (.slice (some ⟨gu, 0, none⟩) k uc) := (unhide TH).cell c3 (fun h => by
              rcases h with ⟨j, hj, e⟩ | e
              · exact own_ne ((unhide HR).own j hj) (unhide HB) (by decide) P e rfl
              · exact own_ne (unhide HU) (unhide HB) (by decide) P e rfl)
            exact (unhide hTy).cell hPo hP
          have f1 := hUy.frozenAt (i * 3 + 1)
          have d2 : wr.cell? ⟨gu, i * 3 + 1, none⟩ = some (.slice none 0 0) := by
            rw [hUy.cellAt (i * 3 + 1) (by omega), (held_get V G M k i hlt).2.1, unhide hGn i (Nat.le_refl _)]
          obtain ⟨hU2, hg2⟩ := hUy.stored (i * 3 + 1) (.slice la (N i + 40) lc)
          rw [held_set V G M k i _ hlt] at hU2
          have hkeep : ∀ {v : Value} {n : Nat} {xs : List Value}, wr.ownsRow 0 9 1 v n xs → (wr.setCell ⟨gu, i * 3 + 1, none⟩ (.slice la (N i + 40) lc)).ownsRow 0 9 1 v n xs := by
            intro v n xs h
            refine h.kept hg2 ?_
            cases hv : v.ownBlock with
            | none => exact .inl rfl
            | some b => exact .inr (fun e => own_ne h hUy (by decide) b hv (by cases e; rfl))
          have hap : ∀ j, j < k → j ≠ i → ∀ b, (V j).ownBlock = some b → ¬ (Value.slice va (N i) vc).ownBlock = some b := by
            intro j hj hne b hb hb'
            exact (unhide HR).apart j i hj hlt hne b hb (by rw [unhide HV]; exact hb')
          have hV2 : Hid (∀ j, j < k → (wr.setCell ⟨gu, i * 3 + 1, none⟩ (.slice la (N i + 40) lc)).ownsRow 0 9 1 (V j) (N j) (marks [.string (wd (M j))] (N j))) := by
            intro j hj
            by_cases e : j = i
            · subst e
              have := hkeep (unhide hOv)
              rw [← unhide HV] at this
              exact this
            · exact hkeep ((unhide hTy).own (unhide oH _ _ _ _ _ _ (unhide hV j hj)) (hap j hj e))
          have hG2 : Hid (∀ j, j < i + 1 → (wr.setCell ⟨gu, i * 3 + 1, none⟩ (.slice la (N i + 40) lc)).ownsRow 0 9 1 (if j = i then .slice la (N i + 40) lc else G j) (N j + 40) (marks [.string (wd (M j))] (N j + 40)) ∧ ∀ b, (if j = i then Value.slice la (N i + 40) lc else G j).ownBlock = some b → (V j).ownBlock = some b ∨ w.heap.size ≤ b) := by
            intro j hj
            by_cases e : j = i
            · subst e
              rw [if_pos rfl]
              refine ⟨hkeep (unhide hO), fun b hb => ?_⟩
              rcases unhide hLoc b hb with h | h
              · exact .inl (by rw [unhide HV]; exact h)
              · exact .inr (by have := unhide hsw; have := unhide HSH; omega)
            · rw [if_neg e]
              obtain ⟨g1, g2⟩ := unhide hG j (by omega)
              refine ⟨hkeep ((unhide hTy).own (unhide oH _ _ _ _ _ _ g1) (fun b hb hb' => ?_)), g2⟩
              rcases g2 b hb with h | h
              · exact hap j (by omega) e b h hb'
              · have := unhide hbi b hb'; omega
          have hTo2 : Hid (Touch (fun b => (∃ i, i < k ∧ (V i).ownBlock = some b) ∨ (Value.slice (some ⟨gu, 0, none⟩) k uc).ownBlock = some b) w (wr.setCell ⟨gu, i * 3 + 1, none⟩ (.slice la (N i + 40) lc))) := by
            show Touch _ _ _
            exact ((unhide TH).trans (unhide hTy) (fun j _ hj => .inl ⟨i, hlt, by rw [unhide HV]; exact hj⟩)).setCell (p := ⟨gu, i * 3 + 1, none⟩) (fun _ => .inr rfl) _
          have hGn2 : Hid (∀ j, i + 1 ≤ j → (if j = i then Value.slice la (N i + 40) lc else G j) = .slice none 0 0) := by
            intro j hj
            rw [if_neg (by omega)]; exact unhide hGn j (by omega)
          have HU2 := hide hU2
          clear hU2 hg2 hkeep hap hUy hneT hO hOv hLoc hTy hV hG hTo TH oH hGn hUr c3r
          go_wp2
          go_roundw
          case rel => exact ⟨i + 1, fun j => if j = i then .slice la (N i + 40) lc else G j, by omega, by go_num, hGn2, HU2, hG2, hV2, hTo2⟩
          case measure => simp [intOf]; omega
    · obtain rfl : i = k := by omega
      go_wp2
      go_end0
      exact ⟨rfl, ⟨G, unhide hUr, fun j hj => (unhide hG j hj).1⟩, unhide hV, unhide hTo⟩
end Go.Proofs.YtbofidpoajdcmaaGreatDoor.Bk
