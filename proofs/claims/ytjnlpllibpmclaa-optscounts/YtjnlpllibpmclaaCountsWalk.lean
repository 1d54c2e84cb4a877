/- The law OptsCounts's walk. -/
import Derived.Test.YtjnlpllibpmclaaAlive
import Derived.Test.YtjnlpllibpmclaaFlags
import Derived.Test.YtjnlpllibpmclaaBeyond
namespace Go.Proofs.Ytjnlpllibpmclaa.Flags
open Go.RowKit

theorem Try.infoFlag : (Try.prog.info? 35).map (fun i => (i.zero, i.size, i.bytes)) = some (some (.agg #[.int .u8 0, .string ByteArray.empty]), 2, 24) := by kernel_rfl

/-- the cells of the first k flags -/
def fc (L : Nat → Int) (A : Nat → ByteArray) : Nat → List Value
  | 0 => []
  | k + 1 => fc L A k ++ [.int .u8 (L k), .string (A k)]
theorem fc_length (L : Nat → Int) (A : Nat → ByteArray) (k : Nat) : (fc L A k).length = k * 2 := by
  induction k with
  | zero => rfl
  | succ k ih => simp [fc, ih]; omega
theorem fc_get (L : Nat → Int) (A : Nat → ByteArray) (k i : Nat) (h : i < k) : (fc L A k)[i * 2]? = some (.int .u8 (L i)) ∧ (fc L A k)[i * 2 + 1]? = some (.string (A i)) := by
  induction k with
  | zero => omega
  | succ k ih =>
    have hl := fc_length L A k
    by_cases e : i < k
    · obtain ⟨h1, h2⟩ := ih e
      simp only [fc]
      rw [List.getElem?_append_left (by omega), List.getElem?_append_left (by omega)]
      exact ⟨h1, h2⟩
    · have e : i = k := by omega
      subst e
      simp only [fc]
      rw [List.getElem?_append_right (by omega), List.getElem?_append_right (by omega), hl]
      simp
theorem fc_one (L : Nat → Int) (A : Nat → ByteArray) (k : Nat) : ∀ u ∈ fc L A k, u.oneCell' = true := by
  induction k with
  | zero => intro u hu; simp [fc] at hu
  | succ k ih =>
    intro u hu
    rcases List.mem_append.1 hu with h | h
    · exact ih u h
    · simp at h; rcases h with rfl | rfl <;> rfl

def joinL {α : Type} (n : Nat) (f g : Nat → α) : Nat → α := fun i => if i < n then f i else g (i - n)
theorem joinL_right {α : Type} (n m : Nat) (f g : Nat → α) : joinL n f g (n + m) = g m := by
  unfold joinL; rw [if_neg (by omega)]; congr 1; omega
theorem fc_join (L1 L2 : Nat → Int) (A1 A2 : Nat → ByteArray) (n m : Nat) : fc (joinL n L1 L2) (joinL n A1 A2) (n + m) = fc L1 A1 n ++ fc L2 A2 m := by
  have h1 : ∀ k, k ≤ n → fc (joinL n L1 L2) (joinL n A1 A2) k = fc L1 A1 k := by
    intro k
    induction k with
    | zero => intro _; rfl
    | succ k ih => intro hk; simp only [fc]; rw [ih (by omega)]; simp [joinL, show k < n from by omega]
  induction m with
  | zero => rw [Nat.add_zero, h1 n (Nat.le_refl _)]; simp [fc]
  | succ m ih =>
    rw [← Nat.add_assoc]
    simp only [fc]
    rw [ih, List.append_assoc, joinL_right, joinL_right]
theorem hasTo_join (L1 L2 : Nat → Int) (c : Int) (n m : Nat) : hasTo (joinL n L1 L2) c (n + m) = hasTo L1 c n + hasTo L2 c m := by
  have h1 : ∀ k, k ≤ n → hasTo (joinL n L1 L2) c k = hasTo L1 c k := by
    intro k
    induction k with
    | zero => intro _; rfl
    | succ k ih => intro hk; simp only [hasTo]; rw [ih (by omega)]; simp [joinL, show k < n from by omega]
  induction m with
  | zero => rw [Nat.add_zero, h1 n (Nat.le_refl _)]; simp [hasTo]
  | succ m ih =>
    rw [← Nat.add_assoc]
    simp only [hasTo]
    rw [ih, joinL_right]
    omega
theorem lastTo_join (L1 L2 : Nat → Int) (A1 A2 : Nat → ByteArray) (c : Int) (n m : Nat) : lastTo (joinL n L1 L2) (joinL n A1 A2) c (n + m) = if (lastTo L2 A2 c m).2 then lastTo L2 A2 c m else lastTo L1 A1 c n := by
  have h1 : ∀ k, k ≤ n → lastTo (joinL n L1 L2) (joinL n A1 A2) c k = lastTo L1 A1 c k := by
    intro k
    induction k with
    | zero => intro _; rfl
    | succ k ih => intro hk; simp only [lastTo]; rw [ih (by omega)]; simp [joinL, show k < n from by omega]
  induction m with
  | zero => rw [Nat.add_zero, h1 n (Nat.le_refl _)]; simp [lastTo]
  | succ m ih =>
    rw [← Nat.add_assoc]
    simp only [lastTo]
    rw [ih, joinL_right, joinL_right]
    by_cases h : L2 m = c
    · simp [h]
    · simp [h]
theorem lastTo_has (L : Nat → Int) (A : Nat → ByteArray) (c : Int) (n : Nat) : (lastTo L A c n).2 = decide ((0 : Int) < hasTo L c n) := by
  induction n with
  | zero => rfl
  | succ n ih =>
    simp only [lastTo, hasTo]
    by_cases h : L n = c
    · simp [h]
    · simp [h, ih]

theorem add_none (b off j : Nat) : (⟨b, off, none⟩ : Addr).add j = ⟨b, off + j, none⟩ := by unfold Addr.add; split <;> simp_all

theorem fl_cells {w : World} {a : Option Addr} {n : Nat} {L : Nat → Int} {A : Nat → ByteArray} (h : Fl w a n L A) : ∀ ad, a = some ad → ∀ j u, (fc L A n)[j]? = some u → w.cell? (ad.add j) = some u := by
  intro ad ha j u hu
  have hl := fc_length L A n
  have hj : j < n * 2 := by
    rcases Nat.lt_or_ge j (n * 2) with h | h
    · exact h
    · rw [List.getElem?_eq_none (by omega)] at hu; cases hu
  rcases h with rfl | ⟨b, off, e, hc, _⟩
  · omega
  · rw [e] at ha
    cases ha
    rw [add_none]
    obtain ⟨c1, c2⟩ := hc (j / 2) (by omega)
    obtain ⟨g1, g2⟩ := fc_get L A n (j / 2) (by omega)
    rcases Nat.mod_two_eq_zero_or_one j with h0 | h0
    · have ej : j / 2 * 2 = j := by omega
      rw [ej] at c1 g1
      rw [g1] at hu
      cases hu
      exact c1
    · have ej : j / 2 * 2 + 1 = j := by omega
      rw [ej] at g2
      rw [Nat.add_assoc, ej] at c2
      rw [g2] at hu
      cases hu
      exact c2

/-- 'append(v, xs...)', v the call's own, xs nil or not -/
theorem wpList_append_onto {P : Program} {w : World} {ops : Array Oper} {rest : List Oper} {o : Oper} {a : Act} {Q : Exit → Act → World → Prop} (hgd : o.guard = none) (s x : Operand) (t : TypeId)
    (ho : o.op = .call { callee := .builtin .append, args := #[s, x], argTypes := #[t, t] })
    (base : Nat) (e : TypeId) (i : TypeInfo) (z : Value) (size bytes : Nat) (ht : P.underlying t = some (.slice e)) (hi : P.info? e = some i) (hz : i.zero = some z)
    (hsize : i.size = size) (hby : i.bytes = bytes) (hzs : z.cells.size = size) (hsz : 0 < size)
    (v : Value) (n : Nat) (xs : List Value) (hs : a.eval s = v) (hown : w.ownsRow base e size v n xs)
    (ao : Option Addr) (m c : Nat) (news : List Value) (hx : a.eval x = .slice ao m c) (hnone : ao = none → m = 0 ∧ c = 0) (hl : news.length = m * size)
    (hnews : ∀ ad, ao = some ad → ∀ j u, news[j]? = some u → w.cell? (ad.add j) = some u) (h1 : ∀ u ∈ news, u.oneCell' = true)
    (h63 : n + m ≤ maxLen) (hbytes : (n + m) * bytes ≤ 140737488355328) (hbase : base ≤ w.heap.size)
    (h : ∀ v' w', w'.ownsRow base e size v' (n + m) (xs ++ news) → w.grownBy w' v.ownBlock → wpList P ops Q rest (a.put o.dst v') w') : wpList P ops Q (o :: rest) a w := by
  cases ao with
  | none =>
    obtain ⟨rfl, rfl⟩ := hnone rfl
    have : news = [] := List.eq_nil_of_length_eq_zero (by omega)
    subst this
    exact wpList_append_own_none hgd s x t ho base e i size ht hi v n xs hs hown hx (h _ _ (by simpa using hown) (World.grownBy.refl _ _))
  | some ad =>
    refine wpList_append_own w hgd s x t ho base e i z size bytes ht hi hz hsize hby hzs hsz v n xs hs hown ad m c news hx hl (hnews ad rfl) h1 h63 hbytes hbase ?_
    intro v' w' hown hgrow _
    exact h v' w' hown hgrow

theorem fl_of_owns {w : World} {base : Nat} {v : Value} {n : Nat} {L : Nat → Int} {A : Nat → ByteArray} {e : TypeId} (h : w.ownsRow base e 2 v n (fc L A n)) : ∃ a cap, v = .slice a n cap ∧ Fl w a n L A := by
  rcases h.2 with ⟨rfl, hn⟩ | ⟨g, cap, cur, rfl, hb, hg, rest⟩
  · exact ⟨none, 0, by rw [hn], .inl hn⟩
  · refine ⟨some ⟨g, 0, none⟩, cap, rfl, .inr ⟨g, 0, rfl, fun i hi => ?_, (h.lt g rfl).2⟩⟩
    have hc := h.cells (g := g) rfl
    obtain ⟨h1, h2⟩ := fc_get L A n i hi
    have e1 := hc _ _ h1
    have e2 := hc _ _ h2
    rw [add_none] at e1 e2
    rw [Nat.add_assoc]
    exact ⟨e1, e2⟩

theorem last_is (s : ByteArray) (ok : Bool) (a : Option Addr) (len cap : Nat) (L : Nat → Int) (A : Nat → ByteArray) (c : Int) (w : World) (he : lastTo L A c len = (s, ok)) (h : Fl w a len L A) (hlen : len ≤ 4611686018427387904) :
    Calls Try.prog 16 #[.slice a len cap, .int .u8 c] w fun e w' => e = .returned (.tuple #[.string s, .bool ok]) ∧ w' = w := by
  have := last_any a len cap L A c w h hlen
  rw [he] at this
  exact this
theorem has_is (k : Nat) (a : Option Addr) (len cap : Nat) (L : Nat → Int) (A : Nat → ByteArray) (c : Int) (w : World) (he : hasTo L c len = k) (h : Fl w a len L A) (hlen : len ≤ 4611686018427387904) :
    Calls Try.prog 17 #[.slice a len cap, .int .u8 c] w fun e w' => e = .returned (.int .i64 k) ∧ Below w.heap.size w w' := by
  have := has_any a len cap L A c w h hlen
  rw [he] at this
  exact this

theorem ret_bool {b : Bool} (h : b = true) : Ending.returned (.bool b) = .returned (.bool true) := by rw [h]

set_option maxHeartbeats 400000 in
theorem beyond_two (n m : Int) (b : Nat) (w : World) (hc : w.cell? ⟨b, 0, none⟩ = some (.int .i64 n)) (hd : w.cell? ⟨b, 1, none⟩ = some (.int .i64 m)) (h0 : 0 ≤ n) (h1 : n ≤ 4611686018428436480) (h2 : 0 ≤ m) (h3 : m ≤ 4611686018428436480) :
    Calls Try.prog 10 #[.slice (some ⟨b, 0, none⟩) 2 2] w fun e w' => e = .returned (.bool (decide (1048576 < n + m))) ∧ w' = w := by
  by_cases hn : 1048576 < n
  · go_enter Try.func10, Try.ntmps10
    go_wp2
    refine wp_loop_rounds 3 ?_
    rw [rounds_succ]
    go_wp2
    go_ret
    exact ⟨by simp; omega, rfl⟩
  · by_cases hm : 1048576 < n + m
    · go_enter Try.func10, Try.ntmps10
      go_wp2
      refine wp_loop_rounds 3 ?_
      rw [rounds_succ]
      go_wp2
      rw [rounds_succ]
      go_wp2
      go_ret
      exact ⟨by simp; omega, rfl⟩
    · go_enter Try.func10, Try.ntmps10
      go_wp2
      refine wp_loop_rounds 3 ?_
      rw [rounds_succ]
      go_wp2
      rw [rounds_succ]
      go_wp2
      rw [rounds_succ]
      go_wp2
      go_ret
      exact ⟨by simp; omega, rfl⟩

set_option maxHeartbeats 1000000 in
set_option maxRecDepth 100000 in
theorem counts_walk (a1 a2 : Option Addr) (n1 c1 n2 c2 : Nat) (L1 L2 : Nat → Int) (A1 A2 : Nat → ByteArray) (c : Int) (w : World) (h1 : Fl w a1 n1 L1 A1) (h2 : Fl w a2 n2 L2 A2)
    (hl1 : n1 ≤ 4611686018427387904) (hl2 : n2 ≤ 4611686018427387904) (hA1 : ∀ i, i < n1 → (A1 i).size ≤ 4611686018427387904) (hA2 : ∀ i, i < n2 → (A2 i).size ≤ 4611686018427387904)
    (hz1 : a1 = none → n1 = 0 ∧ c1 = 0) (hz2 : a2 = none → n2 = 0 ∧ c2 = 0) :
    Calls Try.prog 7 #[.slice a1 n1 c1, .slice a2 n2 c2, .int .u8 c] w fun e w' => e = .returned (.bool true) ∧ Below w.heap.size w w' := by
  have H1 := hide h1
  have H2 := hide h2
  have HA1 := hide hA1
  have HA2 := hide hA2
  have HZ1 := hide hz1
  have HZ2 := hide hz2
  clear h1 h2 hA1 hA2 hz1 hz2
  obtain ⟨i0, hi, hi0, hi1, hi2⟩ := info_parts Try.infoFlag
  go_enter Try.func7, Try.ntmps7
  go_wp2_with fail
  refine (Pa.alive_any _).mono ?_
  rintro e w1 ⟨rfl, hb1⟩
  have G1 : Hid (Fl w1 a1 n1 L1 A1) := (unhide H1).below hb1
  have G2 : Hid (Fl w1 a2 n2 L2 A2) := (unhide H2).below hb1
  clear H1 H2
  go_wp2_with fail
  refine (size_any a1 n1 c1 L1 A1 _ (unhide G1) hl1 (unhide HA1)).mono ?_
  rintro e w2 ⟨⟨v1, rfl, hv1, hv1'⟩, rfl⟩
  go_wp2_with fail
  refine (size_any a2 n2 c2 L2 A2 _ (unhide G2) hl2 (unhide HA2)).mono ?_
  rintro e w3 ⟨⟨v2, rfl, hv2, hv2'⟩, rfl⟩
  by_cases hbig : 1048576 < v1 + v2
  · go_wp2_with fail
    refine (beyond_two v1 v2 _ _ (by simp) (by simp) (by omega) (by omega) (by omega) (by omega)).mono ?_
    rintro e w4 ⟨rfl, rfl⟩
    go_wp2_with fail
    refine (Pa.alive_any _).mono ?_
    rintro e w5 ⟨rfl, hb5⟩
    go_wp2_with fail
    go_ret
    exact ⟨rfl, (hb1.alloc hb1.size _).trans (hb5.mono (by have := hb1.size; simp; omega))⟩
  · go_wp2_with fail
    refine (beyond_two v1 v2 _ _ (by simp) (by simp) (by omega) (by omega) (by omega) (by omega)).mono ?_
    rintro e w4 ⟨rfl, hw4⟩
    have hb4 : Below w3.heap.size w3 w4 := by rw [hw4]; exact (Below.refl _ _).alloc (Nat.le_refl _) _
    have hB4 : Below w.heap.size w w4 := hb1.trans (hb4.mono hb1.size)
    have F1 : Hid (Fl w4 a1 n1 L1 A1) := (unhide G1).below hb4
    have F2 : Hid (Fl w4 a2 n2 L2 A2) := (unhide G2).below hb4
    clear hw4 hb4 G1 G2 hb1
    go_wp2_with (first
      | (at_builtin; refine wpList_append_onto rfl (.tmp 25) (.tmp 26) 26 rfl w4.heap.size 35 i0 _ 2 24 Try.underlying26 hi hi0 hi1 hi2 rfl (by decide) (.slice none 0 0) 0 [] rfl (World.ownsRow_nil _ _ _ _) a1 n1 c1 (fc L1 A1 n1) rfl (unhide HZ1) (by exact fc_length _ _ _) (by exact fl_cells (unhide F1)) (fc_one _ _ _) (by unfold maxLen; omega) (by omega) (Nat.le_refl _) ?_; intro va w5 hown5 hg5; simp only [Nat.zero_add, List.nil_append] at hown5; have hb5 : Below w4.heap.size w4 w5 := (Below.refl _ _).grown hg5 (Nat.le_refl _) (by simp [Value.ownBlock]); have F2' := hide ((unhide F2).below hb5); have HO5 := hide hown5; clear hown5 hg5)
      | (at_builtin; refine wpList_append_onto rfl (.tmp 28) (.tmp 29) 26 rfl w4.heap.size 35 i0 _ 2 24 Try.underlying26 hi hi0 hi1 hi2 rfl (by decide) va n1 (fc L1 A1 n1) rfl (unhide HO5) a2 n2 c2 (fc L2 A2 n2) rfl (unhide HZ2) (by exact fc_length _ _ _) (by exact fl_cells (unhide F2')) (fc_one _ _ _) (by unfold maxLen; omega) (by omega) hb5.size ?_; intro vb w6 hown6 hg6; have hb6 : Below w4.heap.size w4 w6 := hb5.grown hg6 hb5.size (fun j hj => ((unhide HO5).lt j hj).1); rw [← fc_join] at hown6; obtain ⟨ab, cb, rfl, hfb⟩ := fl_of_owns hown6; have F6 := hide hfb; clear hown6 hg6 hfb hb5))
    have hB6 : Below w.heap.size w w6 := hB4.trans (hb6.mono hB4.size)
    have E1 : Hid (Fl w6 a1 n1 L1 A1) := (unhide F1).below hb6
    have E2 : Hid (Fl w6 a2 n2 L2 A2) := (unhide F2).below hb6
    clear F1 F2 hb6 hB4 F2' HO5 HZ1 HZ2 HA1 HA2
    obtain ⟨t, is, ht⟩ : ∃ t is, lastTo L2 A2 c n2 = (t, is) := ⟨_, _, rfl⟩
    obtain ⟨u, had, hu⟩ : ∃ u had, lastTo L1 A1 c n1 = (u, had) := ⟨_, _, rfl⟩
    obtain ⟨k1, hk1⟩ : ∃ k, hasTo L1 c n1 = k := ⟨_, rfl⟩
    obtain ⟨k2, hk2⟩ : ∃ k, hasTo L2 c n2 = k := ⟨_, rfl⟩
    have hj := lastTo_join L1 L2 A1 A2 c n1 n2
    have hjk := hasTo_join L1 L2 c n1 n2
    have hp1 := lastTo_has L1 A1 c n1
    have hp2 := lastTo_has L2 A2 c n2
    have hq1 := hasTo_le L1 c n1
    have hq2 := hasTo_le L2 c n2
    rw [hk1, hk2] at hjk
    rw [ht, hu] at hj
    rw [hu, hk1] at hp1
    rw [ht, hk2] at hp2
    rw [hk1] at hq1
    rw [hk2] at hq2
    have HT := hide ht
    have HU := hide hu
    have HK1 := hide hk1
    have HK2 := hide hk2
    have HJK := hide hjk
    clear ht hu hk1 hk2 hjk
    simp only at hj hp1 hp2
    rcases (show (is = true ∧ (0 : Int) < (k2 : Int)) ∨ (is = false ∧ had = true ∧ (k2 : Int) ≤ 0 ∧ (0 : Int) < (k1 : Int)) ∨ (is = false ∧ had = false ∧ (k2 : Int) ≤ 0 ∧ (k1 : Int) ≤ 0) from by
      cases is
      · cases had
        · refine .inr (.inr ⟨rfl, rfl, ?_, ?_⟩)
          · simpa using hp2
          · simpa using hp1
        · refine .inr (.inl ⟨rfl, rfl, ?_, ?_⟩)
          · simpa using hp2
          · simpa using hp1
      · exact .inl ⟨rfl, by simpa using hp2⟩) with ⟨rfl, hx⟩ | ⟨rfl, rfl, hx, hy⟩ | ⟨rfl, rfl, hx, hy⟩
    · replace hj : lastTo (joinL n1 L1 L2) (joinL n1 A1 A2) c (n1 + n2) = (t, true) := hj
      have HJ := hide hj
      clear hj hp1 hp2
      go_wp2_with fail
      refine (last_is _ _ _ _ _ _ _ c _ (unhide HJ) (unhide F6) (by omega)).mono ?_
      rintro e w7 ⟨rfl, rfl⟩
      go_wp2_with fail
      refine (last_is _ _ _ _ _ _ _ c _ (unhide HT) (unhide E2) (by omega)).mono ?_
      rintro e w7 ⟨rfl, rfl⟩
      go_wp2_with fail
      refine (last_is _ _ _ _ _ _ _ c _ (unhide HU) (unhide E1) (by omega)).mono ?_
      rintro e w7 ⟨rfl, rfl⟩
      go_wp2_with fail
      refine (has_is _ _ _ _ _ _ c _ (unhide HJK) (unhide F6) (by omega)).mono ?_
      rintro e w8 ⟨rfl, hb8⟩
      have F8 := hide ((unhide F6).below hb8)
      have E18 := hide ((unhide E1).below hb8)
      have E28 := hide ((unhide E2).below hb8)
      have hB8 : Below w.heap.size w w8 := hB6.trans (hb8.mono hB6.size)
      clear hb8 F6 E1 E2 hB6
      go_wp2_with fail
      refine (has_is _ _ _ _ _ _ c _ (unhide HK1) (unhide E18) (by omega)).mono ?_
      rintro e w9 ⟨rfl, hb9⟩
      have F9 := hide ((unhide F8).below hb9)
      have E29 := hide ((unhide E28).below hb9)
      have hB9 : Below w.heap.size w w9 := hB8.trans (hb9.mono hB8.size)
      clear hb9 F8 E28 hB8 E18
      go_wp2_with fail
      refine (has_is _ _ _ _ _ _ c _ (unhide HK2) (unhide E29) (by omega)).mono ?_
      rintro e w10 ⟨rfl, hb10⟩
      have F10 := hide ((unhide F9).below hb10)
      have hB10 : Below w.heap.size w w10 := hB9.trans (hb10.mono hB9.size)
      clear hb10 F9 E29 hB9
      go_wp2_with fail
      refine (has_is _ _ _ _ _ _ c _ (unhide HJK) (unhide F10) (by omega)).mono ?_
      rintro e w11 ⟨rfl, hb11⟩
      have hB11 : Below w.heap.size w w11 := hB10.trans (hb11.mono hB10.size)
      clear hb11 F10 hB10
      go_wp2_with fail
      go_ret
      exact ⟨ret_bool (b := decide ((0 : Int) < k1 + k2)) (by simp; omega), hB11⟩
    · replace hj : lastTo (joinL n1 L1 L2) (joinL n1 A1 A2) c (n1 + n2) = (u, true) := hj
      have HJ := hide hj
      clear hj hp1 hp2
      go_wp2_with fail
      refine (last_is _ _ _ _ _ _ _ c _ (unhide HJ) (unhide F6) (by omega)).mono ?_
      rintro e w7 ⟨rfl, rfl⟩
      go_wp2_with fail
      refine (last_is _ _ _ _ _ _ _ c _ (unhide HT) (unhide E2) (by omega)).mono ?_
      rintro e w7 ⟨rfl, rfl⟩
      go_wp2_with fail
      refine (last_is _ _ _ _ _ _ _ c _ (unhide HU) (unhide E1) (by omega)).mono ?_
      rintro e w7 ⟨rfl, rfl⟩
      go_wp2_with fail
      refine (has_is _ _ _ _ _ _ c _ (unhide HJK) (unhide F6) (by omega)).mono ?_
      rintro e w8 ⟨rfl, hb8⟩
      have F8 := hide ((unhide F6).below hb8)
      have E18 := hide ((unhide E1).below hb8)
      have E28 := hide ((unhide E2).below hb8)
      have hB8 : Below w.heap.size w w8 := hB6.trans (hb8.mono hB6.size)
      clear hb8 F6 E1 E2 hB6
      go_wp2_with fail
      refine (has_is _ _ _ _ _ _ c _ (unhide HK1) (unhide E18) (by omega)).mono ?_
      rintro e w9 ⟨rfl, hb9⟩
      have F9 := hide ((unhide F8).below hb9)
      have E29 := hide ((unhide E28).below hb9)
      have hB9 : Below w.heap.size w w9 := hB8.trans (hb9.mono hB8.size)
      clear hb9 F8 E28 hB8 E18
      go_wp2_with fail
      refine (has_is _ _ _ _ _ _ c _ (unhide HK2) (unhide E29) (by omega)).mono ?_
      rintro e w10 ⟨rfl, hb10⟩
      have F10 := hide ((unhide F9).below hb10)
      have hB10 : Below w.heap.size w w10 := hB9.trans (hb10.mono hB9.size)
      clear hb10 F9 E29 hB9
      go_wp2_with fail
      refine (has_is _ _ _ _ _ _ c _ (unhide HJK) (unhide F10) (by omega)).mono ?_
      rintro e w11 ⟨rfl, hb11⟩
      have hB11 : Below w.heap.size w w11 := hB10.trans (hb11.mono hB10.size)
      clear hb11 F10 hB10
      go_wp2_with fail
      go_ret
      exact ⟨ret_bool (b := decide ((0 : Int) < k1 + k2)) (by simp; omega), hB11⟩
    · replace hj : lastTo (joinL n1 L1 L2) (joinL n1 A1 A2) c (n1 + n2) = (u, false) := hj
      have HJ := hide hj
      clear hj hp1 hp2
      go_wp2_with fail
      refine (last_is _ _ _ _ _ _ _ c _ (unhide HJ) (unhide F6) (by omega)).mono ?_
      rintro e w7 ⟨rfl, rfl⟩
      go_wp2_with fail
      refine (last_is _ _ _ _ _ _ _ c _ (unhide HT) (unhide E2) (by omega)).mono ?_
      rintro e w7 ⟨rfl, rfl⟩
      go_wp2_with fail
      refine (last_is _ _ _ _ _ _ _ c _ (unhide HU) (unhide E1) (by omega)).mono ?_
      rintro e w7 ⟨rfl, rfl⟩
      go_wp2_with fail
      refine (has_is _ _ _ _ _ _ c _ (unhide HJK) (unhide F6) (by omega)).mono ?_
      rintro e w8 ⟨rfl, hb8⟩
      have F8 := hide ((unhide F6).below hb8)
      have E18 := hide ((unhide E1).below hb8)
      have E28 := hide ((unhide E2).below hb8)
      have hB8 : Below w.heap.size w w8 := hB6.trans (hb8.mono hB6.size)
      clear hb8 F6 E1 E2 hB6
      go_wp2_with fail
      refine (has_is _ _ _ _ _ _ c _ (unhide HK1) (unhide E18) (by omega)).mono ?_
      rintro e w9 ⟨rfl, hb9⟩
      have F9 := hide ((unhide F8).below hb9)
      have E29 := hide ((unhide E28).below hb9)
      have hB9 : Below w.heap.size w w9 := hB8.trans (hb9.mono hB8.size)
      clear hb9 F8 E28 hB8 E18
      go_wp2_with fail
      refine (has_is _ _ _ _ _ _ c _ (unhide HK2) (unhide E29) (by omega)).mono ?_
      rintro e w10 ⟨rfl, hb10⟩
      have F10 := hide ((unhide F9).below hb10)
      have hB10 : Below w.heap.size w w10 := hB9.trans (hb10.mono hB9.size)
      clear hb10 F9 E29 hB9
      go_wp2_with fail
      refine (has_is _ _ _ _ _ _ c _ (unhide HJK) (unhide F10) (by omega)).mono ?_
      rintro e w11 ⟨rfl, hb11⟩
      have hB11 : Below w.heap.size w w11 := hB10.trans (hb11.mono hB10.size)
      clear hb11 F10 hB10
      go_wp2_with fail
      go_ret
      exact ⟨ret_bool (b := !decide ((0 : Int) < k1 + k2)) (by simp; omega), hB11⟩
end Go.Proofs.Ytjnlpllibpmclaa.Flags
