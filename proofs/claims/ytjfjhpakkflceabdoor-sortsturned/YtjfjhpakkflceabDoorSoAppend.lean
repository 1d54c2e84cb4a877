/- append onto a list of one's own, whatever is appended. -/
import Derived.Test.YtjfjhpakkflceabDoorSoList
import Derived.OwnWalk
import Derived.Laws.AppendOwnNone
namespace Go.Proofs.YtjfjhpakkflceabDoor.So
open Go.RowKit Ky
open Pa (Tx)

/-- 'append(v, xs...)', v the call's own, xs nil or not -/
theorem append_onto {P : Program} {w : World} {ops : Array Oper} {rest : List Oper} {o : Oper} {a : Act} {Q : Exit → Act → World → Prop} (hgd : o.guard = none) (s x : Operand) (t : TypeId)
    (ho : o.op = .call { callee := .builtin .append, args := #[s, x], argTypes := #[t, t] })
    (base : Nat) (e : TypeId) (i : TypeInfo) (z : Value) (size bytes : Nat) (ht : P.underlying t = some (.slice e)) (hi : P.info? e = some i) (hz : i.zero = some z)
    (hsize : i.size = size) (hby : i.bytes = bytes) (hzs : z.cells.size = size) (hsz : 0 < size)
    (v : Value) (n : Nat) (xs : List Value) (hs : a.eval s = v) (hown : w.ownsRow base e size v n xs)
    (ao : Option Addr) (m c : Nat) (news : List Value) (hx : a.eval x = .slice ao m c) (hnone : ao = none → m = 0 ∧ c = 0) (hl : news.length = m * size)
    (hnews : ∀ ad, ao = some ad → ∀ j u, news[j]? = some u → w.cell? (ad.add j) = some u) (h1 : ∀ u ∈ news, u.oneCell' = true)
    (h63 : n + m ≤ maxLen) (hbytes : (n + m) * bytes ≤ 140737488355328) (hbase : base ≤ w.heap.size)
    (h : ∀ v' w', w'.ownsRow base e size v' (n + m) (xs ++ news) → w.grownBy w' v.ownBlock → wpList P ops Q rest (a.put o.dst v') w') : wpList P ops Q (o :: rest) a w := by
  cases ao with
  | none =>
    obtain ⟨rfl, rfl⟩ := hnone rfl
    have : news = [] := List.eq_nil_of_length_eq_zero (by omega)
    subst this
    exact wpList_append_own_none hgd s x t ho base e i size ht hi v n xs hs hown hx (h _ _ (by simpa using hown) (World.grownBy.refl _ _))
  | some ad =>
    refine wpList_append_own w hgd s x t ho base e i z size bytes ht hi hz hsize hby hzs hsz v n xs hs hown ad m c news hx hl (hnews ad rfl) h1 h63 hbytes hbase ?_
    intro v' w' hown hgrow _
    exact h v' w' hown hgrow
theorem tx_src {w : World} {a : Option Addr} {n cap : Nat} {ss : Ls} (h : Tx w a n cap ss) : ∀ ad, a = some ad → ∀ j u, (strs ss)[j]? = some u → w.cell? (ad.add j) = some u := by
  intro ad ha j u hu
  have hl := h.len
  have hj : j < n := by
    rcases Nat.lt_or_ge j n with hj | hj
    · exact hj
    · rw [List.getElem?_eq_none (by rw [strs_len]; omega)] at hu; cases hu
  obtain ⟨g, off, hg, _, hc⟩ := tx_at h hj
  rw [hg] at ha
  obtain rfl := Option.some.inj ha
  rw [Pa.add_none, hc]
  rw [← hu]
  simp [strs, List.getD, List.getElem?_eq_getElem (show j < ss.length by omega)]
end Go.Proofs.YtjfjhpakkflceabDoor.So
