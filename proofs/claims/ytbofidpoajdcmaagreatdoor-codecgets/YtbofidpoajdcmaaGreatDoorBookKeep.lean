/- What keep of a kind leaves: the Book holds one list more. -/
import Derived.Test.YtbofidpoajdcmaaGreatDoorBookWord
import Derived.Deep.RegionLaw
namespace Go.Proofs.YtbofidpoajdcmaaGreatDoor.Bk
open Go.RowKit

theorem step_append_own {P : Program} {ops : Array Oper} {o : Oper} {a : Act} {w : World} {K : Act → World → Prop} {Q : Exit → Act → World → Prop} {E : Prop} (hgd : o.guard = none) (s x : Operand) (t : TypeId)
    (ho : o.op = .call { callee := .builtin .append, args := #[s, x], argTypes := #[t, t] })
    (base : Nat) (e : TypeId) (i : TypeInfo) (z : Value) (size bytes : Nat) (ht : P.underlying t = some (.slice e)) (hi : P.info? e = some i) (hz : i.zero = some z)
    (hsize : i.size = size) (hby : i.bytes = bytes) (hzs : z.cells.size = size) (hsz : 0 < size)
    (v : Value) (n : Nat) (xs : List Value) (hs : a.eval s = v) (hown : w.ownsRow base e size v n xs)
    (ad : Addr) (m c : Nat) (news : List Value) (hx : a.eval x = .slice (some ad) m c) (hl : news.length = m * size) (hnews : ∀ j u, news[j]? = some u → w.cell? (ad.add j) = some u) (h1 : ∀ u ∈ news, u.oneCell' = true)
    (h63 : n + m ≤ maxLen) (hbytes : (n + m) * bytes ≤ 140737488355328) (hbase : base ≤ w.heap.size)
    (h : ∀ v' w', w'.ownsRow base e size v' (n + m) (xs ++ news) → w.grownBy w' v.ownBlock → K (a.put o.dst v') w') :
    if Region.wanted o (yielded ops a.tmps) = true then Oper.wp P o a w K Q else E := by
  have hw : Region.wanted o (yielded ops a.tmps) = true := by simp [Region.wanted, hgd]
  rw [if_pos hw]
  exact wp_append_own w s x t ho base e i z size bytes ht hi hz hsize hby hzs hsz v n xs hs hown ad m c news hx hl hnews h1 h63 hbytes hbase fun v' w' h2 h3 _ => h v' w' h2 h3

theorem own_shape {w : World} {base : Nat} {e : TypeId} {s : Nat} {v : Value} {n : Nat} {xs : List Value} (h : w.ownsRow base e s v n xs) : ∃ a cap, v = .slice a n cap := by
  rcases h.2 with ⟨rfl, rfl⟩ | ⟨g, cap, cur, rfl, _⟩
  · exact ⟨none, 0, rfl⟩
  · exact ⟨_, cap, rfl⟩
theorem triple_new (w : World) (g : Nat) (hg : g = w.heap.size) (x y z : Value) (e : TypeId) : ∀ j u, [x, y, z][j]? = some u → (w.alloc (.cells #[x, y, z] e)).cell? ((⟨g, 0, none⟩ : Addr).add j) = some u := by
  subst hg
  intro j u hj
  match j, hj with
  | 0, hj => simp at hj; subst hj; simp [Addr.add]
  | 1, hj => simp at hj; subst hj; simp [Addr.add]
  | 2, hj => simp at hj; subst hj; simp [Addr.add]
theorem triple_one (a b : Option Addr) (n c n' c' : Nat) (k : IntKind) (x : Int) : ∀ u ∈ [Value.slice a n c, Value.slice b n' c', Value.int k x], u.oneCell' = true := by
  intro u hu; simp at hu; rcases hu with rfl | rfl | rfl <;> rfl

theorem kept_heap {w w1 w2 : World} {base : Nat} {e : TypeId} {s : Nat} {v : Value} {n : Nat} {xs : List Value} {row : Option Nat} (h : w.ownsRow base e s v n xs) (hg : w1.grownBy w2 row) (o : Obj) (hw : w1.heap = (w.alloc o).heap) (hne : ∀ k, v.ownBlock = some k → row = some k → False) : w2.ownsRow base e s v n xs := by
  have h1 : w1.ownsRow base e s v n xs := by
    have := h.alloc o
    unfold World.ownsRow at this ⊢
    rw [hw]
    exact this
  refine h1.kept hg ?_
  cases hv : v.ownBlock with
  | none => exact .inl rfl
  | some k => exact .inr (fun e => hne k hv e.symm)

theorem touch_step {S : Nat → Prop} {a W w1 w2 : World} {row : Option Nat} (h : Touch S a W) (hg : w1.grownBy w2 row) (o : Obj) (hw : w1.heap = (W.alloc o).heap) (h1 : w1.os = W.os) (h2 : w1.tape = W.tape) (h3 : w1.output = W.output) (hr : ∀ k, row = some k → k < a.heap.size → S k) : Touch S a w2 := by
  have h' : Touch S a w1 := by
    have := h.alloc o
    exact ⟨h1.trans h.os, h2.trans h.tape, h3.trans h.output, by rw [hw]; exact this.size, fun k hk hn => by rw [hw]; exact this.block k hk hn⟩
  exact h'.grown hg hr

/-- the Book itself, at block P: thirteen cells -/
abbrev Own (w : World) (P : Nat) (cur : List Value) : Prop := w.ownsRow 0 49 13 (.slice (some ⟨P, 0, none⟩) 1 1) 1 cur

theorem keep_end {w : World} {P f n s base : Nat} {cur xs : List Value} {u : Value} {e : TypeId} (hB : Own w P cur) (ho : w.ownsRow base e s u n xs) (he : e ≠ 49) :
    Own (w.setCell ⟨P, f, none⟩ u) P (cur.set f u) ∧ (w.setCell ⟨P, f, none⟩ u).ownsRow base e s u n xs := by
  obtain ⟨h1, h2⟩ := hB.stored f u
  refine ⟨h1, ho.kept h2 ?_⟩
  cases hv : u.ownBlock with
  | none => exact .inl rfl
  | some k => exact .inr (fun e' => own_ne ho hB he k hv e'.symm)

theorem Tryz.infoHeldText : (Tryz.prog.info? 121).map (fun i => (i.zero, i.size, i.bytes)) = some (some (.agg #[.slice none 0 0, .slice none 0 0, .int .i64 0]), 3, 56) := by kernel_rfl
theorem Tryz.infoListText : Tryz.prog.underlying 38 = some (.slice 121) := by kernel_rfl

theorem Tryz.infoHeldFlag : (Tryz.prog.info? 133).map (fun i => (i.zero, i.size, i.bytes)) = some (some (.agg #[.slice none 0 0, .slice none 0 0, .int .i64 0]), 3, 56) := by kernel_rfl
theorem Tryz.infoListFlag : Tryz.prog.underlying 41 = some (.slice 133) := by kernel_rfl

end Go.Proofs.YtbofidpoajdcmaaGreatDoor.Bk
