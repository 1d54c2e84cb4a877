/- Three lists of one's own that grow beside one another. -/
import Derived.Test.YtmpppdbomdepoaaGreatDoorSoList
import Derived.Maps.AppendAt
import Derived.Deep.RegionLaw
namespace Go.Proofs.YtmpppdbomdepoaaGreatDoor.So
open Go.RowKit Ky
open Pa (Tx)

/-- no two lie in one block -/
def Ap (v v' : Value) : Prop := ∀ k, v.ownBlock = some k → v'.ownBlock ≠ some k
theorem Ap.symm {v v' : Value} (h : Ap v v') : Ap v' v := fun k h1 h2 => h k h2 h1
theorem ap_nil (v : Value) : Ap (.slice none 0 0) v := fun _ h => by simp [Value.ownBlock] at h
theorem Ap.ne {v v' : Value} (h : Ap v v') : v'.ownBlock = none ∨ v'.ownBlock ≠ v.ownBlock := by
  cases e : v'.ownBlock with
  | none => exact .inl rfl
  | some k => right; intro q; exact h k q.symm e
theorem ap_new {w : World} {base : Nat} {e : TypeId} {s n : Nat} {v v' v2 : Value} {xs : List Value} (h2 : w.ownsRow base e s v2 n xs) (loc : v'.ownBlock = v.ownBlock ∨ v'.ownBlock = some w.heap.size) (h : Ap v v2) : Ap v' v2 := by
  intro k h1 h3
  rcases loc with l | l
  · exact h k (l ▸ h1) h3
  · rw [l] at h1
    obtain rfl := Option.some.inj h1
    have := (h2.lt _ h3).2
    omega
/-- three lists -/
structure R3 (W : World) (base : Nat) (v1 v2 v3 : Value) (L1 L2 L3 : Ls) : Prop where
  o1 : W.ownsRow base 9 1 v1 L1.length (strs L1)
  o2 : W.ownsRow base 9 1 v2 L2.length (strs L2)
  o3 : W.ownsRow base 9 1 v3 L3.length (strs L3)
  a12 : Ap v1 v2
  a13 : Ap v1 v3
  a23 : Ap v2 v3
theorem R3.start (W : World) (base : Nat) : R3 W base (.slice none 0 0) (.slice none 0 0) (.slice none 0 0) [] [] [] :=
  ⟨World.ownsRow_nil _ _ _ _, World.ownsRow_nil _ _ _ _, World.ownsRow_nil _ _ _ _, ap_nil _, ap_nil _, ap_nil _⟩
theorem R3.drew {W : World} {base : Nat} {v1 v2 v3 : Value} {L1 L2 L3 : Ls} (h : R3 W base v1 v2 v3 L1 L2 L3) : R3 W.drew base v1 v2 v3 L1 L2 L3 := ⟨h.o1.drew, h.o2.drew, h.o3.drew, h.a12, h.a13, h.a23⟩
theorem R3.alloc {W : World} {base : Nat} {v1 v2 v3 : Value} {L1 L2 L3 : Ls} (h : R3 W base v1 v2 v3 L1 L2 L3) (x : Obj) : R3 (W.alloc x) base v1 v2 v3 L1 L2 L3 := ⟨h.o1.alloc x, h.o2.alloc x, h.o3.alloc x, h.a12, h.a13, h.a23⟩
/-- the first one has grown -/
theorem R3.grow1 {W W' : World} {base : Nat} {v1 v2 v3 v' : Value} {L1 L2 L3 L' : Ls} (h : R3 W base v1 v2 v3 L1 L2 L3) (ho : W'.ownsRow base 9 1 v' L'.length (strs L')) (hg : W.grownBy W' v1.ownBlock) (loc : v'.ownBlock = v1.ownBlock ∨ v'.ownBlock = some W.heap.size) : R3 W' base v' v2 v3 L' L2 L3 :=
  ⟨ho, h.o2.kept hg h.a12.ne, h.o3.kept hg h.a13.ne, ap_new h.o2 loc h.a12, ap_new h.o3 loc h.a13, h.a23⟩
theorem R3.grow2 {W W' : World} {base : Nat} {v1 v2 v3 v' : Value} {L1 L2 L3 L' : Ls} (h : R3 W base v1 v2 v3 L1 L2 L3) (ho : W'.ownsRow base 9 1 v' L'.length (strs L')) (hg : W.grownBy W' v2.ownBlock) (loc : v'.ownBlock = v2.ownBlock ∨ v'.ownBlock = some W.heap.size) : R3 W' base v1 v' v3 L1 L' L3 :=
  ⟨h.o1.kept hg h.a12.symm.ne, ho, h.o3.kept hg h.a23.ne, (ap_new h.o1 loc h.a12.symm).symm, h.a13, ap_new h.o3 loc h.a23⟩
theorem R3.grow3 {W W' : World} {base : Nat} {v1 v2 v3 v' : Value} {L1 L2 L3 L' : Ls} (h : R3 W base v1 v2 v3 L1 L2 L3) (ho : W'.ownsRow base 9 1 v' L'.length (strs L')) (hg : W.grownBy W' v3.ownBlock) (loc : v'.ownBlock = v3.ownBlock ∨ v'.ownBlock = some W.heap.size) : R3 W' base v1 v2 v' L1 L2 L' :=
  ⟨h.o1.kept hg h.a13.symm.ne, h.o2.kept hg h.a23.symm.ne, ho, h.a12, (ap_new h.o1 loc h.a13.symm).symm, (ap_new h.o2 loc h.a23.symm).symm⟩
/-- append to a row of one's own, as one step of a region that draws -/
theorem step_append_own {P : Program} {ops : Array Oper} {o : Oper} {a : Act} {w : World} {K : Act → World → Prop} {Q : Exit → Act → World → Prop} {E : Prop} (hgd : o.guard = none) (s x : Operand) (t : TypeId)
    (ho : o.op = .call { callee := .builtin .append, args := #[s, x], argTypes := #[t, t] })
    (base : Nat) (e : TypeId) (i : TypeInfo) (z : Value) (size bytes : Nat) (ht : P.underlying t = some (.slice e)) (hi : P.info? e = some i) (hz : i.zero = some z)
    (hsize : i.size = size) (hby : i.bytes = bytes) (hzs : z.cells.size = size) (hsz : 0 < size)
    (v : Value) (n : Nat) (xs : List Value) (hs : a.eval s = v) (hown : w.ownsRow base e size v n xs)
    (ad : Addr) (m c : Nat) (news : List Value) (hx : a.eval x = .slice (some ad) m c) (hl : news.length = m * size) (hnews : ∀ j u, news[j]? = some u → w.cell? (ad.add j) = some u) (h1 : ∀ u ∈ news, u.oneCell' = true)
    (h63 : n + m ≤ maxLen) (hbytes : (n + m) * bytes ≤ 140737488355328) (hbase : base ≤ w.heap.size)
    (h : ∀ v' w', w'.ownsRow base e size v' (n + m) (xs ++ news) → w.grownBy w' v.ownBlock → (v'.ownBlock = v.ownBlock ∨ v'.ownBlock = some w.heap.size) → K (a.put o.dst v') w') :
    if Region.wanted o (yielded ops a.tmps) = true then Oper.wp P o a w K Q else E := by
  have hw : Region.wanted o (yielded ops a.tmps) = true := by simp [Region.wanted, hgd]
  rw [if_pos hw]
  obtain ⟨v', w', hr, h2, h3, _, h5⟩ := run_append_own_at (P := P) w base t o.type e i z size bytes ht hi hz hsize hby hzs hsz v n xs hown ad m c news hl hnews h1 h63 hbytes hbase
  unfold Oper.wp execOp
  simp only [ho, resolve, invoke, builtin, Sem.run_bind, Sem.run_pure, Result.andThen_ok, List.map_toArray, List.map_cons, List.map_nil, hs, hx, hr]
  exact h v' w' h2 h3 h5
/-- the same, the source nil or not -/
theorem step_append_src {P : Program} {ops : Array Oper} {o : Oper} {a : Act} {w : World} {K : Act → World → Prop} {Q : Exit → Act → World → Prop} {E : Prop} (hgd : o.guard = none) (s x : Operand) (t : TypeId)
    (ho : o.op = .call { callee := .builtin .append, args := #[s, x], argTypes := #[t, t] })
    (base : Nat) (e : TypeId) (i : TypeInfo) (z : Value) (size bytes : Nat) (ht : P.underlying t = some (.slice e)) (hi : P.info? e = some i) (hz : i.zero = some z)
    (hsize : i.size = size) (hby : i.bytes = bytes) (hzs : z.cells.size = size) (hsz : 0 < size)
    (v : Value) (n : Nat) (xs : List Value) (hs : a.eval s = v) (hown : w.ownsRow base e size v n xs)
    (ad : Option Addr) (m c : Nat) (news : List Value) (hx : a.eval x = .slice ad m c) (hl : news.length = m * size) (hnone : ad = none → m = 0 ∧ c = 0) (hnews : ∀ d, ad = some d → ∀ j u, news[j]? = some u → w.cell? (d.add j) = some u) (h1 : ∀ u ∈ news, u.oneCell' = true)
    (h63 : n + m ≤ maxLen) (hbytes : (n + m) * bytes ≤ 140737488355328) (hbase : base ≤ w.heap.size)
    (h : ∀ v' w', w'.ownsRow base e size v' (n + m) (xs ++ news) → w.grownBy w' v.ownBlock → (v'.ownBlock = v.ownBlock ∨ v'.ownBlock = some w.heap.size) → K (a.put o.dst v') w') :
    if Region.wanted o (yielded ops a.tmps) = true then Oper.wp P o a w K Q else E := by
  cases ad with
  | some d => exact step_append_own hgd s x t ho base e i z size bytes ht hi hz hsize hby hzs hsz v n xs hs hown d m c news hx hl (hnews d rfl) h1 h63 hbytes hbase h
  | none =>
    obtain ⟨rfl, rfl⟩ := hnone rfl
    obtain rfl : news = [] := List.eq_nil_of_length_eq_zero (by rw [hl]; omega)
    have hw : Region.wanted o (yielded ops a.tmps) = true := by simp [Region.wanted, hgd]
    rw [if_pos hw]
    have hrun := run_append_owned_none (P := P) (w := w) base t o.type e i size ht hi v n xs hown
    unfold Oper.wp
    simp [execOp, ho, resolve, invoke, builtin, hs, hx, hrun, Result.andThen]
    exact h v w (by simpa using hown) ⟨rfl, rfl, rfl, Nat.le_refl _, fun _ _ _ => rfl⟩ (.inl rfl)
/-- a list that came in, from a place on -/
theorem slice_from {w : World} {a : Option Addr} {n cap : Nat} {ss : Ls} (h : Tx w a n cap ss) (hcap : cap ≤ 9223372036854775807) (i : Nat) (hi : i ≤ n) :
    ∃ a' c', (∀ W, Sem.run Tryz.prog (Instr.slice 25 (.slice a n cap) (some (.int .i64 (i : Int))) none none) W = .ok (.slice a' (n - i) c') W) ∧ (a' = none → n - i = 0 ∧ c' = 0) ∧
      ∀ W, Below w.heap.size w W → ∀ d, a' = some d → ∀ j u, (strs (ss.drop i))[j]? = some u → W.cell? (d.add j) = some u := by
  have hle := h.le
  have hlen := h.len
  cases a with
  | none =>
    obtain ⟨rfl, rfl⟩ := h.nil rfl
    obtain rfl : i = 0 := by omega
    refine ⟨none, 0, fun W => ?_, fun _ => ⟨rfl, rfl⟩, fun W _ d e => by cases e⟩
    simp [go_sem, Tryz.underlying25, sliced]
  | some ad =>
    by_cases hc : cap = i
    · subst hc
      have hni : n = cap := by omega
      subst hni
      refine ⟨some ad, 0, fun W => ?_, (fun e => by cases e), fun W _ d _ j u hj => ?_⟩
      · simp [go_sem, Tryz.underlying25, sliced]
      · rw [List.drop_eq_nil_of_le (by omega)] at hj
        simp [strs] at hj
    · obtain ⟨g, off, sp⟩ := ad
      refine ⟨some ((⟨g, off, sp⟩ : Addr).add i), cap - i, fun W => ?_, (fun e => by cases e), fun W hB d hd j u hj => ?_⟩
      · simp [go_sem, Tryz.underlying25, sliced]
        rw [if_pos hi, if_neg hc]
      · have hjl : j < n - i := by
          have := (List.getElem?_eq_some_iff.1 hj).1
          rw [strs_len, List.length_drop] at this
          omega
        rcases h.cells with h0 | ⟨b1, f1, e3, hlt, hcl⟩
        · omega
        · obtain ⟨rfl, rfl, rfl⟩ : g = b1 ∧ off = f1 ∧ sp = none := by simpa using e3
          obtain rfl := Option.some.inj hd
          have q := hcl (i + j) (by omega)
          rw [Pa.add_none, Pa.add_none, Nat.add_assoc, (hB.cell (p := ⟨g, off + (i + j), none⟩) hlt).trans q]
          have : (strs (ss.drop i))[j]? = some (.string (ss.getD (i + j) ByteArray.empty)) := by
            simp [strs, List.getD, List.getElem?_eq_getElem (show i + j < ss.length by omega)]
          rw [this] at hj
          exact hj
end Go.Proofs.YtmpppdbomdepoaaGreatDoor.So
