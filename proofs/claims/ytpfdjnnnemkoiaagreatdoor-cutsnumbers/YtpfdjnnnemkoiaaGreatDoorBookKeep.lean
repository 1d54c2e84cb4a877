/- What keep of a kind leaves: the Book holds one list more. -/
import Derived.Test.YtpfdjnnnemkoiaaGreatDoorBookWord
import Derived.Deep.RegionLaw
namespace Go.Proofs.YtpfdjnnnemkoiaaGreatDoor.Bk
open Go.RowKit

theorem step_append_own {P : Program} {ops : Array Oper} {o : Oper} {a : Act} {w : World} {K : Act → World → Prop} {Q : Exit → Act → World → Prop} {E : Prop} (hgd : o.guard = none) (s x : Operand) (t : TypeId)
    (ho : o.op = .call { callee := .builtin .append, args := #[s, x], argTypes := #[t, t] })
    (base : Nat) (e : TypeId) (i : TypeInfo) (z : Value) (size bytes : Nat) (ht : P.underlying t = some (.slice e)) (hi : P.info? e = some i) (hz : i.zero = some z)
    (hsize : i.size = size) (hby : i.bytes = bytes) (hzs : z.cells.size = size) (hsz : 0 < size)
    (v : Value) (n : Nat) (xs : List Value) (hs : a.eval s = v) (hown : w.ownsRow base e size v n xs)
    (ad : Addr) (m c : Nat) (news : List Value) (hx : a.eval x = .slice (some ad) m c) (hl : news.length = m * size) (hnews : ∀ j u, news[j]? = some u → w.cell? (ad.add j) = some u) (h1 : ∀ u ∈ news, u.oneCell' = true)
    (h63 : n + m ≤ maxLen) (hbytes : (n + m) * bytes ≤ 140737488355328) (hbase : base ≤ w.heap.size)
    (h : ∀ v' w', w'.ownsRow base e size v' (n + m) (xs ++ news) → w.grownBy w' v.ownBlock → K (a.put o.dst v') w') :
    if Region.wanted o (yielded ops a.tmps) = true then Oper.wp P o a w K Q else E := by
  have hw : Region.wanted o (yielded ops a.tmps) = true := by simp [Region.wanted, hgd]
  rw [if_pos hw]
  exact wp_append_own w s x t ho base e i z size bytes ht hi hz hsize hby hzs hsz v n xs hs hown ad m c news hx hl hnews h1 h63 hbytes hbase fun v' w' h2 h3 _ => h v' w' h2 h3

theorem own_shape {w : World} {base : Nat} {e : TypeId} {s : Nat} {v : Value} {n : Nat} {xs : List Value} (h : w.ownsRow base e s v n xs) : ∃ a cap, v = .slice a n cap := by
  rcases h.2 with ⟨rfl, rfl⟩ | ⟨g, cap, cur, rfl, _⟩
  · exact ⟨none, 0, rfl⟩
  · exact ⟨_, cap, rfl⟩
theorem triple_new (w : World) (g : Nat) (hg : g = w.heap.size) (x y z : Value) (e : TypeId) : ∀ j u, [x, y, z][j]? = some u → (w.alloc (.cells #[x, y, z] e)).cell? ((⟨g, 0, none⟩ : Addr).add j) = some u := by
  subst hg
  intro j u hj
  match j, hj with
  | 0, hj => simp at hj; subst hj; simp [Addr.add]
  | 1, hj => simp at hj; subst hj; simp [Addr.add]
  | 2, hj => simp at hj; subst hj; simp [Addr.add]
theorem triple_one (a b : Option Addr) (n c n' c' : Nat) (k : IntKind) (x : Int) : ∀ u ∈ [Value.slice a n c, Value.slice b n' c', Value.int k x], u.oneCell' = true := by
  intro u hu; simp at hu; rcases hu with rfl | rfl | rfl <;> rfl

theorem kept_heap {w w1 w2 : World} {base : Nat} {e : TypeId} {s : Nat} {v : Value} {n : Nat} {xs : List Value} {row : Option Nat} (h : w.ownsRow base e s v n xs) (hg : w1.grownBy w2 row) (o : Obj) (hw : w1.heap = (w.alloc o).heap) (hne : ∀ k, v.ownBlock = some k → row = some k → False) : w2.ownsRow base e s v n xs := by
  have h1 : w1.ownsRow base e s v n xs := by
    have := h.alloc o
    unfold World.ownsRow at this ⊢
    rw [hw]
    exact this
  refine h1.kept hg ?_
  cases hv : v.ownBlock with
  | none => exact .inl rfl
  | some k => exact .inr (fun e => hne k hv e.symm)

theorem touch_step {S : Nat → Prop} {a W w1 w2 : World} {row : Option Nat} (h : Touch S a W) (hg : w1.grownBy w2 row) (o : Obj) (hw : w1.heap = (W.alloc o).heap) (h1 : w1.os = W.os) (h2 : w1.tape = W.tape) (h3 : w1.output = W.output) (hr : ∀ k, row = some k → k < a.heap.size → S k) : Touch S a w2 := by
  have h' : Touch S a w1 := by
    have := h.alloc o
    exact ⟨h1.trans h.os, h2.trans h.tape, h3.trans h.output, by rw [hw]; exact this.size, fun k hk hn => by rw [hw]; exact this.block k hk hn⟩
  exact h'.grown hg hr

/-- the Book itself, at block P: thirteen cells -/
abbrev Own (w : World) (P : Nat) (cur : List Value) : Prop := w.ownsRow 0 41 13 (.slice (some ⟨P, 0, none⟩) 1 1) 1 cur

theorem keep_end {w : World} {P f n s base : Nat} {cur xs : List Value} {u : Value} {e : TypeId} (hB : Own w P cur) (ho : w.ownsRow base e s u n xs) (he : e ≠ 41) :
    Own (w.setCell ⟨P, f, none⟩ u) P (cur.set f u) ∧ (w.setCell ⟨P, f, none⟩ u).ownsRow base e s u n xs := by
  obtain ⟨h1, h2⟩ := hB.stored f u
  refine ⟨h1, ho.kept h2 ?_⟩
  cases hv : u.ownBlock with
  | none => exact .inl rfl
  | some k => exact .inr (fun e' => own_ne ho hB he k hv e'.symm)

theorem Tryz.infoHeldText : (Tryz.prog.info? 52).map (fun i => (i.zero, i.size, i.bytes)) = some (some (.agg #[.slice none 0 0, .slice none 0 0, .int .i64 0]), 3, 56) := by kernel_rfl
theorem Tryz.infoListText : Tryz.prog.underlying 30 = some (.slice 52) := by kernel_rfl

set_option maxHeartbeats 1000000 in
set_option maxRecDepth 100000 in
theorem keepText_any (B P : Nat) (n k : Nat) (u : Value) (cur hc : List Value) (la : Option Addr) (ll lc : Nat) (w : World) (hB : Own w P cur) (h0 : cur[0]? = some (.int .i64 n)) (h3 : cur[3]? = some u) (hu : w.ownsRow B 52 3 u k hc)
    (hBs : B ≤ w.heap.size) (hn : n ≤ 1000000) (hk : k ≤ 1000000) :
    Calls Tryz.prog 17 #[.pointer (some ⟨P, 0, none⟩), .slice la ll lc] w fun e w' => e = .returned (.tuple #[]) ∧ ∃ u', Own w' P ((cur.set 0 (.int .i64 ((n + 1 : Nat) : Int))).set 3 u') ∧
      w'.ownsRow B 52 3 u' (k + 1) (hc ++ [.slice la ll lc, .slice none 0 0, .int .i64 ((n + 1 : Nat) : Int)]) ∧ Touch (fun b => b = P ∨ u.ownBlock = some b) w w' := by
  obtain ⟨i0, hi, hz0, hz1, hz2⟩ := info_parts Tryz.infoHeldText
  have ek : ((n + 1 : Nat) : Int) = (n : Int) + 1 := by omega
  rw [ek]
  clear ek
  have c0 : w.cell? ⟨P, 0, none⟩ = some (.int .i64 n) := (hB.cellAt 0 (by omega)).trans h0
  have c3 : w.cell? ⟨P, 3, none⟩ = some u := (hB.cellAt 3 (by omega)).trans h3
  have f0 := hB.frozenAt 0
  have f3 := hB.frozenAt 3
  obtain ⟨hB1, hg1⟩ := hB.stored 0 (.int .i64 ((n : Int) + 1))
  have hne : ∀ j, u.ownBlock = some j → j = P → False := fun j hj e => own_ne hu hB (by decide) j hj (by subst e; rfl)
  have hu1 := hu.kept hg1 (by
    cases hv : u.ownBlock with
    | none => exact .inl rfl
    | some j => exact .inr (fun e => hne j hv (by simpa using e)))
  have hl3 : 3 < cur.length := by rw [hB.1]; omega
  obtain ⟨ua, uc, rfl⟩ := own_shape hu
  have HC3 : Hid ((cur.set 0 (.int .i64 ((n : Int) + 1)))[3]? = some (.slice ua k uc)) := by show _ = _; rw [List.getElem?_set_ne (by decide)]; exact h3
  have HB1 := hide hB1
  have hPlt : P < w.heap.size := (own_block hB P rfl).1
  have HU1 := hide hu1
  have HNE := hide hne
  have HT1 : Hid (Touch (fun b => b = P ∨ (Value.slice ua k uc).ownBlock = some b) w (w.setCell ⟨P, 0, none⟩ (.int .i64 ((n : Int) + 1)))) := (Touch.refl _ w).setCell (fun _ => .inl rfl) _
  clear hB hu hB1 hg1 hu1 hne h0 h3
  go_enter Tryz.func17, Tryz.ntmps17
  go_wp2
  go_region_law (refine step_append_own rfl (.tmp 15) (.tmp 22) 30 rfl B 52 i0 _ 3 56 Tryz.infoListText hi hz0 hz1 hz2 rfl (by decide) (.slice ua k uc) k hc (by simp [Act.eval]) (by exact ((unhide HU1).alloc _)) ⟨w.heap.size, 0, none⟩ 1 1 [.slice la ll lc, .slice none 0 0, .int .i64 ((n : Int) + 1)] (by simp [Act.eval]) rfl (by exact triple_new _ _ (by simp) _ _ _ _) (triple_one _ _ _ _ _ _ _ _) (by unfold maxLen; omega) (by omega) (by simp; omega) ?_; intro v1 w2 hown2 hg2; obtain ⟨va, vc, rfl⟩ := own_shape hown2; (have hB2 : Own w2 P (cur.set 0 (.int .i64 ((n : Int) + 1))) := by exact kept_heap (unhide HB1) hg2 _ rfl (fun j hj e => unhide HNE j e (Option.some.inj hj).symm)); have c3' := (hB2.cellAt 3 (by omega)).trans (unhide HC3); have f3' := hB2.frozenAt 3; have HB2 := hide hB2; have HO2 := hide hown2; have HG2 := hide hg2; clear hB2 hown2 hg2)
  all_goals
    go_wp2
    go_end0
    obtain ⟨e1, e2⟩ := keep_end (f := 3) (unhide HB2) (unhide HO2) (by decide)
    exact ⟨rfl, _, e1, e2, (touch_step (unhide HT1) (unhide HG2) _ rfl rfl rfl rfl (fun j hj _ => .inr hj)).setCell (fun _ => .inl rfl) _⟩

theorem Tryz.infoHeldFlag : (Tryz.prog.info? 70).map (fun i => (i.zero, i.size, i.bytes)) = some (some (.agg #[.slice none 0 0, .slice none 0 0, .int .i64 0]), 3, 56) := by kernel_rfl
theorem Tryz.infoListFlag : Tryz.prog.underlying 33 = some (.slice 70) := by kernel_rfl

end Go.Proofs.YtpfdjnnnemkoiaaGreatDoor.Bk
