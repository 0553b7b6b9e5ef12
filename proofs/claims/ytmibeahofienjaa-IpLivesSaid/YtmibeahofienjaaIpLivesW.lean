/- The walk of the law on packets that go on. -/
import Derived.Test.YtmibeahofienjaaIpLive
import Derived.Test.YtmibeahofienjaaIpGet
import Derived.Test.YtmibeahofienjaaIpRLive
import Derived.Test.YtmibeahofienjaaIpFld
import Derived.Test.YtmibeahofienjaaIpSameZ
namespace Go.Proofs.Ytmibeahofienjaa
set_option linter.unusedVariables false
set_option linter.unusedSimpArgs false
open Go.ChangeShapes Go.WideShapes Go.ChangeAt Go.RowKit

set_option maxRecDepth 10000 in
set_option maxHeartbeats 8000000 in
theorem ipLives_walk (w : World) {v : Value} {l : List UInt8} (h : Byt w v l) (hl0 : l.length ≤ 140737488351232) :
    Calls Try.prog 6 #[v] w fun e w' => e = .returned (.bool true) ∧ Grow w w' := by
  obtain ⟨A, c, rfl, hcl, hcm⟩ := h.form
  unfold maxLen at hcm
  by_cases hL : 70000 < l.length
  · go_enter Try.func6, Try.ntmps6
    go_wp2_with fail
    refine (ipLive_any _).mono ?_
    rintro e wl ⟨rfl, hgl⟩
    go_wp2_with fail
    go_ret
    exact ⟨rfl, hgl⟩
  have hl : l.length ≤ 1000000 := by omega
  have hlc : 0 ≤ lcode l ∧ lcode l ≤ 6 := by unfold lcode mcode; (repeat' split) <;> decide
  obtain ⟨lc1, lc2⟩ := hlc
  go_enter Try.func6, Try.ntmps6
  go_wp2_with fail
  refine (Live_any _ l _ h hl).mono ?_
  rintro e w2 ⟨u, rfl, hu1, hu2, hg2⟩
  by_cases hc : lcode l ≠ 0
  · have hcb : (lcode l != 0) = true := by simpa using hc
    obtain rfl := hu2 hc
    go_wp2_with fail
    refine (RLive_any _ l _ (h.grow hg2) hl).mono ?_
    rintro e w3 ⟨y, rfl, hy1, hy2, hg3⟩
    obtain rfl := hy2 hc
    have c1 := str1 (Byt.nil w3)
    unfold strV at c1
    go_wp2_with fail
    refine (code_any _ _ (by omega) (by omega)).mono ?_
    rintro e w' ⟨rfl, rfl⟩
    go_wp2_with fail
    refine (ipLive_any _).mono ?_
    rintro e wl ⟨rfl, hgl⟩
    go_wp2_with fail
    go_ret
    exact ⟨rfl, (hg2.trans hg3).trans hgl⟩
  have hc0 : lcode l = 0 := by simpa using hc
  have hm0 : mcode l = 0 := by
    unfold lcode at hc0
    by_cases q : mcode l ≠ 0
    · rw [if_pos q] at hc0; exact absurd hc0 q
    · simpa using q
  have h8 : 2 ≤ byt l 8 := by
    unfold lcode at hc0
    rw [if_neg (by simpa using hm0)] at hc0
    split at hc0
    · cases hc0
    · omega
  have hgd := (good_iff l).1 hm0
  obtain ⟨lg1, lg2⟩ := lived_good hgd h8
  have y8 := byt_lt l 8
  have hr1 : res l = got l := by unfold res; rw [if_pos hm0]
  obtain ⟨k2, hk2⟩ : ∃ k2, k2 = ({ got l with ttl := byt l 8 - 1 } : Pkt) := ⟨_, rfl⟩
  have hr2 : res (lived l) = k2 := by unfold res; rw [if_pos lg1, lg2, hk2]
  have hok2 := res_ok (lived l)
  rw [hr2] at hok2
  have hset : ∀ vo vd, (cellsP (got l) vo vd).toList.set 5 (.int .u8 ((byt l 8 - 1 : Nat) : Int)) = (cellsP k2 vo vd).toList := fun vo vd => by rw [hk2]; rfl
  have ho2 : k2.opts = (got l).opts := by rw [hk2]
  have hd2 : k2.data = (got l).data := by rw [hk2]
  clear hk2
  have hou := hu1 hc0
  rw [hc0]
  have hll : (lived l).length ≤ 1000000 := by
    unfold lived
    simp only [List.length_set, List.length_take]
    omega
  obtain ⟨Au, nu, cu, rfl, _⟩ := hou.byt.form2
  go_wp2_with fail
  refine (RLive_any _ l _ (h.grow hg2) hl).mono ?_
  rw [hc0]
  rintro e w3 ⟨y, rfl, hy1, hy2, hg3⟩
  have hby := hy1 rfl
  have hbu := hou.byt.grow hg3
  obtain ⟨Ay, ny, cy, rfl, _⟩ := hby.form2
  have c1 := str1 hbu
  have c2 := str1 hby
  unfold strV at c1 c2
  have hg03 := hg2.trans hg3
  clear hu1 hu2 hy1 hy2
  go_wp2_with fail
  refine (code_any 0 _ (by omega) (by omega)).mono ?_
  rintro e w' ⟨rfl, rfl⟩
  go_wp2_with fail
  clear c1 c2
  refine (Get_any _ l _ (h.grow hg03) hl).mono ?_
  rw [hr1, hm0]
  rintro e w6 ⟨vo, vd, rfl, hvo, hvd, hg6⟩
  have bo := hvo.byt
  have bd := hvd.byt
  obtain ⟨A6, n6, c6, rfl, _⟩ := bo.form2
  obtain ⟨B6, m6, d6, rfl, _⟩ := bd.form2
  go_wp2_with (refine wpList_store_ip w6 _ rfl _ _ rfl rfl w6.heap.size rfl (got l) zeroP (.slice A6 n6 c6) (.slice B6 m6 d6) (.slice none 0 0) (.slice none 0 0) (by rfl) rfl rfl (Blk.new w6 zeroP (.slice none 0 0) (.slice none 0 0)) (Grow.alloc _ _) (Nat.le_refl _) ?_; intro w7 hk7 _ hg7)
  have hg37 := hg6.trans hg7
  have hz7 := hk7.lt
  refine (Get_any _ (lived l) _ (hbu.grow hg37) hll).mono ?_
  rw [hr2, lg1]
  rintro e w8 ⟨vo2, vd2, rfl, hvo2, hvd2, hg8⟩
  obtain ⟨A8, n8, c8, rfl, _⟩ := hvo2.byt.form2
  obtain ⟨B8, m8, d8, rfl, _⟩ := hvd2.byt.form2
  have hz8 := hg8.size
  go_wp2_with (first | (refine wpList_store_ip w8 _ rfl _ _ rfl rfl w8.heap.size rfl k2 zeroP (.slice A8 n8 c8) (.slice B8 m8 d8) (.slice none 0 0) (.slice none 0 0) (by rfl) rfl rfl (Blk.new w8 zeroP (.slice none 0 0) (.slice none 0 0)) (Grow.alloc _ _) (Nat.le_refl _) ?_; intro w9 hk9 _ hg9; have hk79 := (hk7.grow hg8).grow hg9; have dt : w9.cell? ⟨w6.heap.size, 5, none⟩ = some (.int .u8 (byt l 8 : Int)) := hk79.boxd.2.2.2.2.2.1) | (refine wpList_store_fld w6 w9 rfl _ _ _ rfl rfl w6.heap.size 5 (.int .u8 ((byt l 8 - 1 : Nat) : Int)) rfl (show Value.int .u8 ((byt l 8 : Int) - 1) = _ from by congr 1; omega) (got l) k2 _ _ (.slice A6 n6 c6) (.slice B6 m6 d6) hk79 (by kernel_rfl) rfl (by omega) (hset _ _) ((hg7.trans hg8).trans hg9) (Nat.le_refl _) ?_; intro wE hkE hbE hgE))
  refine (code_any 0 _ (by omega) (by omega)).mono ?_
  rintro e w' ⟨rfl, rfl⟩
  go_wp2_with fail
  refine (code_any 0 _ (by omega) (by omega)).mono ?_
  rintro e w' ⟨rfl, rfl⟩
  obtain ⟨d0, d1, d2, d3, d4, d5, d6', d7, d8', d9, d10⟩ := hkE.boxd
  have hkQ : Blk wE w8.heap.size k2 (.slice A8 n8 c8) (.slice B8 m8 d8) := by
    unfold Blk at hk9 ⊢
    rw [hbE.2 _ (by omega)]
    exact hk9
  obtain ⟨e0, e1, e2, e3, e4, e5, e6', e7, e8, e9, e10⟩ := hkQ.boxd
  have ip1 : Ip wE (ipV k2 (.slice A6 n6 c6) (.slice B6 m6 d6)) k2 := ⟨_, _, rfl, by rw [ho2]; exact bo.grow hgE, by rw [hd2]; exact bd.grow hgE, hok2⟩
  have ip2 : Ip wE (ipV k2 (.slice A8 n8 c8) (.slice B8 m8 d8)) k2 := ⟨_, _, rfl, (Own.but (hvo2.grow hg9) hbE (by omega)).byt, (Own.but (hvd2.grow hg9) hbE (by omega)).byt, hok2⟩
  go_wp2_with fail
  refine (RSame_yes _ _ k2 k2 _ ip1 ip2 rfl).mono ?_
  rintro e wF ⟨rfl, hgF⟩
  go_wp2_with fail
  refine (ipLive_any _).mono ?_
  rintro e wl ⟨rfl, hgl⟩
  go_wp2_with fail
  go_ret
  exact ⟨rfl, (((hg03.trans hg6).trans hgE).trans hgF).trans hgl⟩
end Go.Proofs.Ytmibeahofienjaa
