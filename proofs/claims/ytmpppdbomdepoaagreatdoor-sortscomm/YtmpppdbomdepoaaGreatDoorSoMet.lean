import Derived.Test.YtmpppdbomdepoaaGreatDoorSoFacts
import Derived.Test.YtmpppdbomdepoaaGreatDoorSoFew
import Derived.Test.YtmpppdbomdepoaaGreatDoorSoSays
import Derived.Test.YtmpppdbomdepoaaGreatDoorSoCm
import Derived.Test.YtmpppdbomdepoaaGreatDoorSoCount
import Derived.Test.YtmpppdbomdepoaaGreatDoorKyHeld
import Derived.Deep.RegionHeld3
import Derived.Test.YtmpppdbomdepoaaGreatDoorSoThree
import Derived.Test.YtmpppdbomdepoaaGreatDoorSoAl
/- What two lists in order have, each alone and both: the parts are in order, make the lists again, and none of the first stands in the second. -/
namespace Go.Proofs.YtmpppdbomdepoaaGreatDoor.So
open Go.RowKit Ky

/-- the order that nothing is said of -/
def oN : Ky.Ord := ⟨0, 0, 0, false, false, false, false⟩
theorem okN : okO oN = true := by decide
theorem fitN (s : Bs) : fit oN s = s := by simp [fit, oN]
theorem keyN (s : Bs) : key oN s = s := by
  unfold key
  rw [okN]
  simp [oN]
theorem compareN (a b : Bs) : Ky.compare oN a b = cmpL a b := by
  unfold Ky.compare
  rw [okN, keyN, keyN, fitN, fitN]
  simp [oN]
theorem cBN (a b : ByteArray) : cB oN false a b = cmpL a.data.toList b.data.toList := by
  unfold cB cmpA Ky.lex
  rw [compareN]
  simp [oN]
theorem cmpN_same {a b : ByteArray} (h : cmpL a.data.toList b.data.toList = 0) : a = b := by
  rw [← cBN] at h
  exact cB_same oN a b h
structure Comm (a b one two both : Ls) : Prop where
  s1 : one.Sublist a
  s2 : two.Sublist b
  s3 : both.Sublist a
  p1 : (one ++ both).Perm a
  p2 : (two ++ both).Perm b
  ap : ∀ x ∈ one, x ∉ two
theorem InO.head {c : ByteArray → ByteArray → Int} {x : ByteArray} {l : Ls} (h : InO c (x :: l)) : ∀ y ∈ l, c x y ≤ 0 := (List.pairwise_cons.1 h).1
theorem InO.tail {c : ByteArray → ByteArray → Int} {x : ByteArray} {l : Ls} (h : InO c (x :: l)) : InO c l := (List.pairwise_cons.1 h).2
theorem comm_facts : ∀ (n : Nat) (a b : Ls), a.length + b.length ≤ n → InO (cB oN false) a → InO (cB oN false) b → Comm a b (comm a b).1 (comm a b).2.1 (comm a b).2.2
  | n, [], b, _, _, _ => by
    rw [comm_nil]
    exact ⟨List.Sublist.refl _, List.Sublist.refl _, List.Sublist.refl _, by simp, by simp, by simp⟩
  | n, x :: a, [], _, _, _ => by
    rw [comm_nil']
    exact ⟨List.Sublist.refl _, List.Sublist.refl _, List.nil_sublist _, by simp, by simp, by simp⟩
  | 0, x :: a, y :: b, h, _, _ => by simp at h
  | n + 1, x :: a, y :: b, h, ha, hb => by
    have g := good_cB oN false
    rw [comm_cons]
    by_cases h1 : cmpL x.data.toList y.data.toList < 0
    · rw [if_pos h1]
      have ih := comm_facts n a (y :: b) (by simp at h ⊢; omega) ha.tail hb
      generalize comm a (y :: b) = r at ih
      refine ⟨ih.s1.cons_cons x, ih.s2, ih.s3.cons x, by simpa using ih.p1.cons x, ih.p2, ?_⟩
      intro z hz hz2
      rcases List.mem_cons.1 hz with rfl | hz
      · have hm := ih.s2.subset hz2
        rcases List.mem_cons.1 hm with rfl | hm
        · rw [← cBN, g.self] at h1; omega
        · have h2 := hb.head z hm
          have h3 := g.tr y z y h2 (by rw [cBN]; omega)
          have h4 : cB oN false z y < 0 := by rw [cBN]; exact h1
          have h5 := g.tn y z
          omega
      · exact ih.ap z hz hz2
    · rw [if_neg h1]
      by_cases h2 : 0 < cmpL x.data.toList y.data.toList
      · rw [if_pos h2]
        have ih := comm_facts n (x :: a) b (by simp at h ⊢; omega) ha hb.tail
        generalize comm (x :: a) b = r at ih
        refine ⟨ih.s1, ih.s2.cons_cons y, ih.s3, ih.p1, by simpa using ih.p2.cons y, ?_⟩
        intro z hz hz2
        rcases List.mem_cons.1 hz2 with rfl | hz2
        · have hm := ih.s1.subset hz
          rcases List.mem_cons.1 hm with rfl | hm
          · rw [← cBN, g.self] at h2; omega
          · have h3 := ha.head z hm
            rw [cBN] at h3
            omega
        · exact ih.ap z hz hz2
      · rw [if_neg h2]
        have e : x = y := cmpN_same (by omega)
        subst e
        have ih := comm_facts n a b (by simp at h ⊢; omega) ha.tail hb.tail
        generalize comm a b = r at ih
        refine ⟨ih.s1.cons x, ih.s2.cons x, ih.s3.cons_cons x, ?_, ?_, ih.ap⟩
        · exact List.perm_middle.trans (ih.p1.cons x)
        · exact List.perm_middle.trans (ih.p2.cons x)
/-- merged, the parts are the list again -/
theorem merge_back (l p q : Ls) (hs : InO (cB oN false) l) (hp : (p ++ q).Perm l) : sortL oN false (p ++ q) = l := by
  rw [sort_perm oN hp]
  exact (sort_is oN l l (List.Perm.refl _) hs).symm
theorem sub_in {l m : Ls} (h : m.Sublist l) (hl : InO (cB oN false) l) : InO (cB oN false) m := hl.sublist h
end Go.Proofs.YtmpppdbomdepoaaGreatDoor.So

/- SortsComm returns true, if Sort, Comm, Merge and alive answer as they should. -/
namespace Go.Proofs.YtmpppdbomdepoaaGreatDoor.So
open Go.RowKit Go.Shelf Ky
open Pa (Tx tot)

attribute [local go_sem] Oper.semAt_some

theorem tot_memC : ∀ {A : Ls} {s : ByteArray}, s ∈ A → s.size ≤ tot A
  | x :: l, s, h => by
    rcases List.mem_cons.1 h with rfl | h
    · simp [tot]
    · have := tot_memC h; simp [tot]; omega
abbrev ovN : Value := .agg #[.bool false, .bool false, .bool false, .bool false, .int .i64 0, .int .i64 0, .int .u8 0]
/-- Sort of a short list, no order being said -/
theorem sort_short (HS : SortSays) (L : Ls) (y : Option Addr) (n cy : Nat) (W : World) (h : Tx W y n cy L) (hn : n ≤ 300) (hc : cy ≤ 9223372036854775807) (hz : ∀ s ∈ L, s.size ≤ 1073741000) :
    Calls Tryz.prog 16 #[ovN, .slice y n cy, .bool false] W fun e w' => ∃ x c, e = .returned (.tuple #[.slice x n c, .int .i64 0]) ∧ (Tx w' x n c (sortL oN false L) ∧ c ≤ 9223372036854775807) ∧ Below W.heap.size W w' :=
  (HS oN false L y n cy W h (by omega) hc (fun _ => hz)).mono fun e w' q => by
    have hE : sortE oN n = 0 := by unfold sortE; rw [okN, if_neg (by simp), if_neg (by omega)]
    have hE1 : sortE oN L.length = 0 := by rw [h.len]; exact hE
    obtain ⟨v, h1, h2, h3⟩ := q
    rw [show sortA oN false L = sortL oN false L by unfold sortA; rw [hE1, if_pos rfl]] at h2
    obtain ⟨x, c, rfl, h4, h5⟩ := own_tx h2
    rw [sortL_len, h.len] at h4 h1
    exact ⟨x, c, by rw [h1, hE], ⟨h4, h5⟩, h3⟩
/-- Merge of two lists in order -/
theorem merge_short (HM : MergeSays) (P Q L : Ls) (hP : checkL oN false P = -1) (hQ : checkL oN false Q = -1) (hL : sortL oN false (P ++ Q) = L) (hl : P.length + Q.length ≤ 600) (hPs : ∀ s ∈ P, s.size ≤ 1073741000) (hQs : ∀ s ∈ Q, s.size ≤ 1073741000)
    (x y : Option Addr) (c d : Nat) (W : World) (h1 : Tx W x P.length c P) (h2 : Tx W y Q.length d Q) (hc : c ≤ 9223372036854775807) (hd : d ≤ 9223372036854775807) :
    Calls Tryz.prog 7 #[ovN, .slice (some ⟨W.heap.size, 0, none⟩) 2 2] (W.alloc (.cells #[.slice x P.length c, .slice y Q.length d] 25)) fun e w' => ∃ z c', e = .returned (.tuple #[.slice z L.length c', .int .i64 0]) ∧ Tx w' z L.length c' L ∧ Below W.heap.size W w' := by
  obtain ⟨W2, hW2⟩ : ∃ W2, W2 = W.alloc (.cells #[.slice x P.length c, .slice y Q.length d] 25) := ⟨_, rfl⟩
  have hb : Below W.heap.size W W2 := by rw [hW2]; exact (Below.refl _ W).alloc (Nat.le_refl _) _
  have k0 : W2.cell? ⟨W.heap.size, 0, none⟩ = some (.slice x P.length c) := by rw [hW2]; simp
  have k1 : W2.cell? ⟨W.heap.size, 1, none⟩ = some (.slice y Q.length d) := by rw [hW2]; simp
  have hsz : W.heap.size < W2.heap.size := by rw [hW2]; simp
  have hLL : LL W2 (some ⟨W.heap.size, 0, none⟩) 2 [P, Q] := by
    refine ⟨rfl, .inr ⟨W.heap.size, 0, rfl, hsz, fun i hi => ?_⟩⟩
    rw [Nat.zero_add]
    match i, hi with
    | 0, _ => exact ⟨x, P.length, c, k0, h1.below hb, hc⟩
    | 1, _ => exact ⟨y, Q.length, d, k1, h2.below hb, hd⟩
  have e0 : [P, Q].flatten = P ++ Q := by simp
  have e1 : mergeE oN [P, Q] = 0 := by
    unfold mergeE
    rw [okN, if_neg (by simp), if_neg (by simp [hP, hQ]), e0, if_neg (by rw [List.length_append]; omega)]
  have e2 : mergeA oN [P, Q] = L := by
    unfold mergeA
    rw [e1, if_pos rfl, e0, hL]
  rw [← hW2]
  refine (HM oN _ _ 2 2 W2 hLL (by omega) (by rw [e0, List.length_append]; omega) (fun L' hL' => ?_)).mono fun e w' q => ?_
  · simp only [List.mem_cons, List.not_mem_nil, or_false] at hL'
    rcases hL' with rfl | rfl
    · exact hPs
    · exact hQs
  · obtain ⟨v, q1, q2, q3⟩ := q
    rw [e2] at q2
    obtain ⟨z, c', rfl, q4, _⟩ := own_tx q2
    exact ⟨z, c', by rw [q1, e1], q4, hb.trans (q3.mono hb.size)⟩
theorem cnt_none {A : Ls} {s : ByteArray} (h : s ∉ A) : cnt A s = 0 := by
  unfold cnt
  rw [List.countP_eq_zero]
  intro y hy
  simp only [decide_eq_true_eq]
  rintro rfl
  exact h hy
theorem tx_atC {W : World} {x : Option Addr} {n c : Nat} {L : Ls} (h : Tx W x n c L) (i : Nat) (hi : i < n) : ∃ b off, x = some ⟨b, off, none⟩ ∧ b < W.heap.size ∧ W.cell? ⟨b, off + i, none⟩ = some (.string (L.getD i ByteArray.empty)) := by
  rcases h.cells with h0 | ⟨b, off, e, hb, hc⟩
  · omega
  · exact ⟨b, off, e, hb, hc i hi⟩

set_option maxRecDepth 100000 in
set_option maxHeartbeats 1000000 in
theorem sortsComm_any (AL : AliveSays) (HS : SortSays) (HM : MergeSays) (A B : Ls) (a b : Option Addr) (la ca lb cb : Nat) (w : World) (hT : Tx w a la ca A) (hT2 : Tx w b lb cb B) (hl : la ≤ 4611686018427387904) (hl2 : lb ≤ 4611686018427387904) (hca : ca ≤ 9223372036854775807) (hcb : cb ≤ 9223372036854775807) (hs : ∀ s ∈ A, s.size ≤ 4611686018427387904) (hs2 : ∀ s ∈ B, s.size ≤ 4611686018427387904) :
    Calls Tryz.prog 4 #[.slice a la ca, .slice b lb cb] w fun e w' => e = .returned (.bool true) ∧ Below w.heap.size w w' := by
  have AL1 := hide AL
  unfold AliveSays at AL1
  have HT := hide hT
  have HT2 := hide hT2
  have FW : Hid (∀ W, Below w.heap.size w W → Calls Tryz.prog 15 #[.slice (some ⟨W.heap.size, 0, none⟩) 2 2] (W.alloc (.cells #[.slice a la ca, .slice b lb cb] 25)) fun e w' => ∃ r : Bool, e = .returned (.bool r) ∧ (r = true → la + lb ≤ 300 ∧ la + tot A ≤ 20000 ∧ lb + tot B ≤ 20000) ∧ Below w.heap.size w w') := fun W h =>
    (few_two A B a b la ca lb cb W.heap.size _ (by simp) (by simp) ((hT.below h).below ((Below.refl _ W).alloc (Nat.le_refl _) _)) ((hT2.below h).below ((Below.refl _ W).alloc (Nat.le_refl _) _)) hl hl2 hs hs2).mono fun e w' ⟨r, h1, h2, h3⟩ => ⟨r, h1, h2, (h.alloc h.size _).trans (h3.mono (by have := h.size; simp; omega))⟩
  have hlen := hide hT.len
  have hlen2 := hide hT2.len
  clear hT hT2
  go_enter Tryz.func4, Tryz.ntmps4
  go_wp2_with fail
  refine (unhide AL1 _).mono ?_
  rintro e w1 ⟨rfl, b1⟩
  have H1 := hide b1
  clear b1
  go_wp2_with fail
  refine (unhide FW _ (unhide H1)).mono ?_
  rintro e w2 ⟨r, rfl, hr, b2⟩
  have H2 := hide b2
  clear b2 H1 FW
  cases r
  · clear hr
    go_wp2_with fail
    refine (unhide AL1 _).mono ?_
    rintro e w3 ⟨rfl, b3⟩
    have H3 : Hid (Below w.heap.size w w3) := (unhide H2).trans (b3.mono (unhide H2).size)
    clear b3 H2
    go_wp2_with fail
    go_ret
    exact ⟨rfl, unhide H3⟩
  · obtain ⟨hf1, hf2, hf3⟩ := hr rfl
    clear hr AL1
    have hAs : ∀ s ∈ A, s.size ≤ 1073741000 := fun s h => by have := tot_memC h; omega
    have hBs : ∀ s ∈ B, s.size ≤ 1073741000 := fun s h => by have := tot_memC h; omega
    have SA := hide (fun W h => sort_short HS A a la ca W h (by omega) hca hAs)
    have SB := hide (fun W h => sort_short HS B b lb cb W h (by omega) hcb hBs)
    have hmA : ∀ s ∈ sortL oN false A, s.size ≤ 1073741000 := fun s hs => hAs s ((sort_all oN A).1.subset hs)
    have hmB : ∀ s ∈ sortL oN false B, s.size ≤ 1073741000 := fun s hs => hBs s ((sort_all oN B).1.subset hs)
    have hiA := (sort_all oN A).2
    have hiB := (sort_all oN B).2
    have hlA : (sortL oN false A).length = la := by rw [sortL_len, unhide hlen]
    have hlB : (sortL oN false B).length = lb := by rw [sortL_len, unhide hlen2]
    obtain ⟨MA, hMA⟩ : ∃ M, M = sortL oN false A := ⟨_, rfl⟩
    obtain ⟨MB, hMB⟩ : ∃ M, M = sortL oN false B := ⟨_, rfl⟩
    rw [← hMA] at SA hmA hiA hlA
    rw [← hMB] at SB hmB hiB hlB
    have hF := comm_facts _ MA MB (Nat.le_refl _) hiA hiB
    have CM := hide (fun x y c d W t1 t2 q1 q2 => pcomm_any MA MB x y la c lb d W t1 t2 (by omega) q1 q2)
    obtain ⟨one, h1⟩ : ∃ l, l = (comm MA MB).1 := ⟨_, rfl⟩
    obtain ⟨two, h2⟩ : ∃ l, l = (comm MA MB).2.1 := ⟨_, rfl⟩
    obtain ⟨both, h3⟩ : ∃ l, l = (comm MA MB).2.2 := ⟨_, rfl⟩
    rw [← h1, ← h2, ← h3] at hF CM
    have n1 : one.length ≤ 300 := by have := hF.s1.length_le; omega
    have n2 : two.length ≤ 300 := by have := hF.s2.length_le; omega
    have n3 : both.length ≤ 300 := by have := hF.s3.length_le; omega
    have M1 := hide (fun x y c d W => merge_short HM one both MA ((check_in oN okN _).2 (sub_in hF.s1 hiA)) ((check_in oN okN _).2 (sub_in hF.s3 hiA)) (merge_back MA one both hiA hF.p1) (by omega) (fun s h => hmA s (hF.s1.subset h)) (fun s h => hmA s (hF.s3.subset h)) x y c d W)
    have M2 := hide (fun x y c d W => merge_short HM two both MB ((check_in oN okN _).2 (sub_in hF.s2 hiB)) ((check_in oN okN _).2 (sub_in hF.s3 hiA)) (merge_back MB two both hiB hF.p2) (by omega) (fun s h => hmB s (hF.s2.subset h)) (fun s h => hmA s (hF.s3.subset h)) x y c d W)
    rw [hlA] at M1
    rw [hlB] at M2
    have AP := hide hF.ap
    clear h1 h2 h3 hF hMA hMB hiA hiB hmA hmB hAs hBs hlA hlB AL HS HM
    go_wp2_with fail
    refine (unhide SA _ ((unhide HT).below (unhide H2))).mono ?_
    rintro e w4 ⟨x4, c4, rfl, ⟨t4, q4⟩, b4⟩
    have H4 : Hid (Below w.heap.size w w4) := (unhide H2).trans (b4.mono (unhide H2).size)
    have T4 := hide t4
    clear b4 H2 SA t4
    go_wp2_with fail
    refine (unhide SB _ ((unhide HT2).below (unhide H4))).mono ?_
    rintro e w5 ⟨x5, c5, rfl, ⟨t5, q5⟩, b5⟩
    have H5 : Hid (Below w.heap.size w w5) := (unhide H4).trans (b5.mono (unhide H4).size)
    have T45 := hide ((unhide T4).below b5)
    have T5 := hide t5
    clear b5 H4 SB t5 T4
    go_wp2_with fail
    refine (unhide CM _ _ _ _ _ (unhide T45) (unhide T5) q4 q5).mono ?_
    rintro e w6 ⟨v1, v2, v3, rfl, hR, b6⟩
    have H6 : Hid (Below w.heap.size w w6) := (unhide H5).trans (b6.mono (unhide H5).size)
    have T46 := hide ((unhide T45).below b6)
    have T56 := hide ((unhide T5).below b6)
    obtain ⟨y1, d1, hv1, u1, r1⟩ := own_tx hR.o1
    obtain ⟨y2, d2, hv2, u2, r2⟩ := own_tx hR.o2
    obtain ⟨y3, d3, hv3, u3, r3⟩ := own_tx hR.o3
    have U1 := hide u1
    have U2 := hide u2
    have U3 := hide u3
    subst hv1 hv2 hv3
    obtain ⟨k1, hk1⟩ : ∃ k, k = one.length := ⟨_, rfl⟩
    obtain ⟨k2, hk2⟩ : ∃ k, k = two.length := ⟨_, rfl⟩
    obtain ⟨k3, hk3⟩ : ∃ k, k = both.length := ⟨_, rfl⟩
    rw [← hk1, ← hk3] at M1
    rw [← hk2, ← hk3] at M2
    rw [← hk1] at U1 n1
    rw [← hk2] at U2 n2
    rw [← hk3] at U3 n3
    rw [← hk1, ← hk2, ← hk3]
    have HK1 := hide hk1
    clear b6 H5 CM T45 T5 hR u1 u2 u3 hk1 hk2 hk3
    go_wp2_with fail
    refine (unhide M1 _ _ _ _ _ (unhide U1) (unhide U3) r1 r3).mono ?_
    rintro e w7 ⟨x7, c7, rfl, t7, b7⟩
    have H7 : Hid (Below w.heap.size w w7) := (unhide H6).trans (b7.mono (unhide H6).size)
    have T47 := hide ((unhide T46).below b7)
    have T57 := hide ((unhide T56).below b7)
    have U17 := hide ((unhide U1).below b7)
    have U27 := hide ((unhide U2).below b7)
    have U37 := hide ((unhide U3).below b7)
    have T7 := hide t7
    clear b7 H6 M1 T46 T56 U1 U2 U3 t7
    go_wp2_with fail
    refine (unhide M2 _ _ _ _ _ (unhide U27) (unhide U37) r2 r3).mono ?_
    rintro e w8 ⟨x8, c8, rfl, t8, b8⟩
    have H8 : Hid (Below w.heap.size w w8) := (unhide H7).trans (b8.mono (unhide H7).size)
    have T48 := hide ((unhide T47).below b8)
    have T58 := hide ((unhide T57).below b8)
    have T78 := hide ((unhide T7).below b8)
    have U18 := hide ((unhide U17).below b8)
    have U28 := hide ((unhide U27).below b8)
    have T8 := hide t8
    clear b8 H7 M2 T47 T57 U17 U27 U37 T7 t8
    go_wp2_with fail
    refine (Pa.sameTexts_any x7 x4 la c7 c4 c7 c4 MA w8 (by omega) (unhide T78) (unhide T48)).mono ?_
    rintro e w9 ⟨rfl, b9⟩
    have H9 : Hid (Below w.heap.size w w9) := (unhide H8).trans (b9.mono (unhide H8).size)
    have T59 := hide ((unhide T58).below b9)
    have T89 := hide ((unhide T8).below b9)
    have U19 := hide ((unhide U18).below b9)
    have U29 := hide ((unhide U28).below b9)
    clear b9 H8 T48 T58 T78 U18 U28 T8
    go_wp2_with fail
    refine (Pa.sameTexts_any x8 x5 lb c8 c5 c8 c5 MB w9 (by omega) (unhide T89) (unhide T59)).mono ?_
    rintro e w10 ⟨rfl, b10⟩
    have H10 : Hid (Below w.heap.size w w10) := (unhide H9).trans (b10.mono (unhide H9).size)
    have U110 := hide ((unhide U19).below b10)
    have U210 := hide ((unhide U29).below b10)
    clear b10 H9 T59 T89 U19 U29
    go_wp2_with fail
    go_loopw [16] (fun v wx => ∃ i : Nat, i ≤ k1 ∧ v = .int .i64 i ∧ Hid (Below w.heap.size w wx) ∧ Hid (Tx wx y1 k1 d1 one) ∧ Hid (Tx wx y2 k2 d2 two)) (fun v _ => k1 - (intOf v).toNat)
    case atStart => exact ⟨0, Nat.zero_le _, rfl, H10, U110, U210⟩
    case round =>
      clear H10 U110 U210
      obtain ⟨i, hi, rfl, hB, hU1, hU2⟩ := hrel
      by_cases hlt : i < k1
      · have hlt' : (i : Int) < (k1 : Int) := by omega
        obtain ⟨g, off, rfl, hg, hcell⟩ := tx_atC (unhide hU1) i hlt
        have hno : one.getD i ByteArray.empty ∉ two := by
          refine unhide AP _ ?_
          have hi' : i < one.length := by rw [← unhide HK1]; exact hlt
          rw [List.getD_eq_getElem?_getD, List.getElem?_eq_getElem hi']
          exact List.getElem_mem hi'
        obtain ⟨z, hz⟩ : ∃ z, z = one.getD i ByteArray.empty := ⟨_, rfl⟩
        rw [← hz] at hcell hno
        have C : Hid (Calls Tryz.prog 18 #[.slice y2 k2 d2, .string z] wr fun e w' => e = .returned (.int .i64 0) ∧ Below wr.heap.size wr w') :=
          (count_any two z y2 k2 d2 wr (unhide hU2) (by omega)).mono fun e w' ⟨h1, h2⟩ => ⟨by rw [h1, cnt_none hno]; rfl, h2⟩
        clear hz hno
        go_wp2_with fail
        refine (unhide C).mono ?_
        rintro e wz ⟨rfl, bz⟩
        have hBz : Hid (Below w.heap.size w wz) := (unhide hB).trans (bz.mono (unhide hB).size)
        have hU1z := hide ((unhide hU1).below bz)
        have hU2z := hide ((unhide hU2).below bz)
        clear bz hB hU1 hU2 C hcell
        go_wp2_with fail
        go_roundw
        case rel => exact ⟨i + 1, by omega, by go_num, hBz, hU1z, hU2z⟩
        case measure => simp [intOf]; omega
      · have hlt' : ¬ (i : Int) < (k1 : Int) := by omega
        go_wp2_with fail
        go_ret
        exact ⟨rfl, unhide hB⟩
end Go.Proofs.YtmpppdbomdepoaaGreatDoor.So

/- What Sort, Check and alive of the program answer: as the walks of the outright statements ask. -/
namespace Go.Proofs.YtmpppdbomdepoaaGreatDoor.So
open Go.RowKit Ky

theorem alive_says : AliveSays := alive_anyS
theorem sort_says : SortSays := fun o u A a la ca w hT hl _ hs => sort_any o u A a la ca w hT hl hs
theorem check_says : CheckSays := fun o u A a la ca w hT hl hs => check_anyS o u A a la ca w hT hl hs
end Go.Proofs.YtmpppdbomdepoaaGreatDoor.So
