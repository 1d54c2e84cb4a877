/- A walk's iterator as one, and the call that makes it. -/
import Derived.Test.YtbajjbgeohbdjaaWkVisit
namespace Go.Proofs.Ytbajjbgeohbdjaa.Wk
open Go.RowKit Go.Proofs.Ytbajjbgeohbdjaa.Cu Go.Proofs.Ytbajjbgeohbdjaa.Tr Go.Proofs.Ytbajjbgeohbdjaa.Pm Go.Proofs.Ytbajjbgeohbdjaa.Pt Go.Proofs.Ytbajjbgeohbdjaa.Rng

theorem store_fn (W : World) (k : Nat) (v : Value) (e : TypeId) (hv : v.oneCell' = true) (hk : k = W.heap.size) : (store ⟨k, 0, none⟩ v).run Try.prog (W.alloc (.cells #[.nilFunc] e)) = .ok () (W.alloc (.cells #[v] e)) := by
  subst hk
  rw [run_store _ _ _ _ _ hv]
  have hc : (W.alloc (.cells #[.nilFunc] e)).cell? ⟨W.heap.size, 0, none⟩ = some .nilFunc := by simp
  have hf : (W.alloc (.cells #[.nilFunc] e)).frozen? ⟨W.heap.size, 0, none⟩ = false := by simp
  have hs : (W.alloc (.cells #[.nilFunc] e)).setCell ⟨W.heap.size, 0, none⟩ v = W.alloc (.cells #[v] e) := by rw [World.setCell_alloc_new]; rfl
  rw [hc, hf, hs]
  simp
/-- the iterator's value -/
def itv (tb fb : Nat) : Value := .func (.func 30) #[] #[.pointer (some ⟨tb, 0, none⟩), .pointer (some ⟨fb, 0, none⟩)]
set_option maxHeartbeats 1000000 in
theorem from_any (a : Option Addr) (n cap : Nat) (e : Ev) (deep : Int) (s : Sp) (w : World) :
    Calls Try.prog 14 #[.agg (ta a n cap e deep), .agg (sa s)] w fun r w' => r = .returned (itv w.heap.size (w.heap.size + 1)) ∧ w' = (w.alloc (.cells (ta a n cap e deep) tyT)).alloc (.cells (sa s) tyS) := by
  have hmf : ∀ (fn : Fn) (first cap : Array Value) (w : World), (Instr.makeFunc fn first cap).run Try.prog w = .ok (.func fn first cap) w := fun _ _ _ _ => rfl
  go_enter Try.func14, Try.ntmps14
  go_wp2
  go_ret
  exact ⟨rfl, rfl⟩
set_option maxRecDepth 100000 in
set_option maxHeartbeats 1000000 in
theorem from_itr (now : Int) (w0 : World) (tb fb : Nat) (a : Option Addr) (n cap : Nat) (ns : List Nd) (e : Ev) (deep : Int) (p : ByteArray) (k : Nat) (hc : checkP now ns = true) (hg : Ng w0 a n cap ns) (hi : In ns 34 k) (hp : p.size ≤ 10000) :
    Itr4 Try.prog 30 #[.pointer (some ⟨tb, 0, none⟩), .pointer (some ⟨fb, 0, none⟩)] enS (wkP ns e deep 34 0 p k) (Rd w0 tb fb a n cap e deep ⟨p, k, 0, false⟩) := by
  intro l J Jx R0 W hJ hJx hK hR0 hrd hY h0
  have hL : Loopy w0 tb fb a n cap e deep ⟨p, k, 0, false⟩ (wkP ns e deep 34 0 p k) l W.heap.size J Jx := ⟨hJ, hK, hrd, hY⟩
  obtain ⟨X, hX⟩ : ∃ X, X = (W.alloc (.cells #[.func (.yield l) #[] #[]] tyV)).alloc (.cells #[.func (.func 31) #[] #[.pointer (some ⟨W.heap.size, 0, none⟩), .pointer (some ⟨tb, 0, none⟩), .pointer (some ⟨W.heap.size + 1, 0, none⟩)]] tyV) := ⟨_, rfl⟩
  have hOw : Ow l tb W.heap.size R0 X := by
    have b1 := (Boxed.new W tyV (.func (.yield l) #[] #[])).alloc (.cells #[.func (.func 31) #[] #[.pointer (some ⟨W.heap.size, 0, none⟩), .pointer (some ⟨tb, 0, none⟩), .pointer (some ⟨W.heap.size + 1, 0, none⟩)]] tyV)
    have b2 := Boxed.new (W.alloc (.cells #[.func (.yield l) #[] #[]] tyV)) tyV (.func (.func 31) #[] #[.pointer (some ⟨W.heap.size, 0, none⟩), .pointer (some ⟨tb, 0, none⟩), .pointer (some ⟨W.heap.size + 1, 0, none⟩)])
    rw [World.size_alloc] at b2
    rw [hX]
    exact ⟨b1, b2, fun h => by have := hR0 _ h; omega, fun h => by have := hR0 _ h; omega, fun k hk => by have := hR0 k hk; simp; omega⟩
  have hJX : J R0 [] X := by rw [hX]; exact (hJ R0).alloc _ ((hJ R0).alloc _ h0)
  have hXs : W.heap.size ≤ X.heap.size := by rw [hX]; simp; omega
  have hV := visit_any now w0 tb fb W.heap.size a n cap ns e deep ⟨p, k, 0, false⟩ (wkP ns e deep 34 0 p k) l W.heap.size J Jx hc hg hL (Nat.le_refl _) 34 0 p k R0 [] X hi (by omega) (by omega) hJX hOw hXs (List.prefix_refl _)
  rw [List.nil_append] at hV
  have hrd0 := hrd _ _ _ h0
  obtain ⟨f0, f1, f2, f3, -⟩ := step_look hrd0.first
  simp only at f0 f1 f2 f3
  have hfl : fb < W.heap.size := (Array.getElem?_eq_some_iff.1 hrd0.first).1
  have HV := hide hV
  clear hV hL hJX hOw hXs hrd0 hJ hJx hK hR0 hrd hY h0 hc hg hi hp
  have hmf : ∀ (fn : Fn) (first cap : Array Value) (w : World), (Instr.makeFunc fn first cap).run Try.prog w = .ok (.func fn first cap) w := fun _ _ _ _ => rfl
  have hst := store_fn (W.alloc (.cells #[.func (.yield l) #[] #[]] tyV)) (W.heap.size + 1) (.func (.func 31) #[] #[.pointer (some ⟨W.heap.size, 0, none⟩), .pointer (some ⟨tb, 0, none⟩), .pointer (some ⟨W.heap.size + 1, 0, none⟩)]) tyV rfl (by simp)
  subst hX
  go_enter Try.func30, Try.ntmps30
  go_wp2_with fail
  refine (unhide HV).mono ?_
  rintro r W' ⟨q, R', rfl, m, h1, h2⟩
  have H1 := hide h1
  have H2 := hide h2
  clear h1 h2 m HV
  go_wp2
  go_end0
  refine ⟨⟨_, rfl⟩, R', ?_⟩
  cases q with
  | true => exact .inl (unhide H1 rfl)
  | false => exact .inr (unhide H2 rfl)
end Go.Proofs.Ytbajjbgeohbdjaa.Wk
