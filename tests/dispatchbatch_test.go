package tests

import (
	"math/rand"
	"slices"
	"testing"

	"loop.example/g00057/impl"
)

func TestBatchJobsByHand(t *testing.T) {
	list := jobs(
		ofKind(1, comesAt(6, job(3, 1))),
		ofKind(0, comesAt(2, job(8, 1))),
		ofKind(1, comesAt(2, job(5, 1))),
		ofKind(0, comesAt(9, job(1, 1))),
		ofKind(1, comesAt(7, job(2, 1))),
		ofKind(9, comesAt(4, job(7, 1))))
	for most, want := range map[int64]impl.BatchesResult{
		-1: batchesCode(impl.ErrRange),
		0:  batchesCode(impl.ErrRange),
		1:  batchesTold(numbers(5), numbers(8), numbers(7), numbers(3), numbers(2), numbers(1)),
		2:  batchesTold(numbers(5, 3), numbers(8, 1), numbers(7), numbers(2)),
		3:  batchesTold(numbers(5, 3, 2), numbers(8, 1), numbers(7)),
		4:  batchesTold(numbers(5, 3, 2), numbers(8, 1), numbers(7)),
		30: batchesTold(numbers(5, 3, 2), numbers(8, 1), numbers(7)),
		31: batchesCode(impl.ErrRange),
	} {
		checkBatched(t, "three kinds", list, most, want)
	}
	alike := jobs(job(9, 1), job(2, 1), job(6, 1), job(4, 1), job(11, 1))
	checkBatched(t, "of one Come and one Kind", alike, 2, batchesTold(numbers(2, 4), numbers(6, 9), numbers(11)))
	checkBatched(t, "batches that are just full", alike[:4], 2, batchesTold(numbers(2, 4), numbers(6, 9)))
	checkBatched(t, "one batch that is just full", alike, 5, batchesTold(numbers(2, 4, 6, 9, 11)))
	checkBatched(t, "one fewer than that", alike, 4, batchesTold(numbers(2, 4, 6, 9), numbers(11)))
	kinds := jobs(ofKind(3, job(4, 1)), ofKind(0, job(3, 1)), ofKind(3, job(2, 1)), ofKind(0, job(1, 1)))
	checkBatched(t, "of one Come, kinds in turn", kinds, 2, batchesTold(numbers(1, 3), numbers(2, 4)))
	checkBatched(t, "a batch waits for its own kind", kinds, 30, batchesTold(numbers(1, 3), numbers(2, 4)))
	comes := jobs(comesAt(5, job(1, 1)), comesAt(4, job(2, 1)), comesAt(5, job(3, 1)), comesAt(3, job(4, 1)))
	checkBatched(t, "Come is ahead of Id", comes, 3, batchesTold(numbers(4, 2, 1), numbers(3)))
	// A batch that is full is not the last of its Kind any more: the third kind-2 job goes behind the fourth of kind 1.
	mixed := jobs(
		ofKind(2, comesAt(1, job(1, 1))), ofKind(2, comesAt(2, job(2, 1))),
		ofKind(1, comesAt(3, job(3, 1))), ofKind(2, comesAt(4, job(4, 1))),
		ofKind(1, comesAt(5, job(5, 1))), ofKind(1, comesAt(6, job(6, 1))), ofKind(2, comesAt(7, job(7, 1))))
	checkBatched(t, "new ones among the old", mixed, 2, batchesTold(numbers(1, 2), numbers(3, 5), numbers(4, 7), numbers(6)))
	checkBatched(t, "the lots of a fab", plainJobs(), 2, batchesTold(numbers(3, 5), numbers(9, 7)))
	turned := jobs(impl.Job{Id: 2, Time: 9, Second: 1, Due: 3, Weight: 4}, impl.Job{Id: 1, Time: 1, Second: 8, Due: 9, Weight: 7})
	checkBatched(t, "all else turns nothing", turned, 1, batchesTold(numbers(1), numbers(2)))
}

func TestBatchJobsAtItsEdges(t *testing.T) {
	for _, most := range jobEnds() {
		if most < 1 || most > 30 {
			checkBatched(t, "most beyond", plainJobs(), most, batchesCode(impl.ErrRange))
			checkBatched(t, "most beyond, no jobs", nil, most, batchesCode(impl.ErrRange))
			checkBatched(t, "most beyond, too many jobs", manyJobs(31), most, batchesCode(impl.ErrMany))
			continue
		}
		checkBatched(t, "no jobs", nil, most, batchesTold())
		checkBatched(t, "one", jobs(job(6, 1)), most, batchesTold(numbers(6)))
		checkBatched(t, "MaxJobs", manyJobs(30), most, batchesTold(slices.Collect(slices.Chunk(runOf(1, 30), int(most)))...))
	}
	var kinds []impl.Job
	var each [][]int64
	for _, kind := range runOf(0, 10) {
		kinds = append(kinds, ofKind(kind, job(20-kind, 1)))
		each = append(each, numbers(11+kind))
	}
	checkBatched(t, "each of its own Kind", kinds, 30, batchesTold(each...))
	checkBatched(t, "of Kind 10", append(kinds, ofKind(10, job(30, 1))), 30, batchesCode(impl.ErrRange))
	great := jobs(comesAt(1000000, job(1, 1)), comesAt(999999, job(greatestInt, 1)), comesAt(999999, job(greatestInt-1, 1)))
	checkBatched(t, "numbers as great as may be", great, 2, batchesTold(numbers(greatestInt-1, greatestInt), numbers(1)))
}

// Each job is in one batch, none of which is empty, too large, or of two kinds; of a Kind but the last one is full; jobs and batches stand as they came.
func TestBatchesHaveEachJobOnce(t *testing.T) {
	chance := rand.New(rand.NewSource(269))
	full, several := 0, 0
	for range 3000 {
		list, most := someJobs(chance, chance.Intn(31)), 1+chance.Int63n(numbers(3, 30)[chance.Intn(2)])
		got := impl.BatchJobs(list, most)
		checkBatched(t, "some", list, most, got)
		if !slices.Equal(slices.Sorted(slices.Values(slices.Concat(got.Batches...))), slices.Sorted(slices.Values(idsWant(list)))) {
			t.Fatalf("%s: not each job once, %v", brief(list), got)
		}
		order := idsWant(byComeWant(list))
		lasts, first := map[int64][]int64{}, -1
		for _, batch := range got.Batches {
			kind := list[jobAtWant(list, batch[0])].Kind
			last := -1
			for _, id := range batch {
				at := slices.Index(order, id)
				if at <= last || list[jobAtWant(list, id)].Kind != kind {
					t.Fatalf("%s: the batch %v", brief(list), batch)
				}
				last = at
			}
			ahead, begun := lasts[kind]
			if begin := slices.Index(order, batch[0]); begin <= first || int64(len(batch)) > most || begun && int64(len(ahead)) < most {
				t.Fatalf("%s, at most %d: the batch %v in %v", brief(list), most, batch, got)
			} else {
				lasts[kind], first = batch, begin
			}
			full, several = full+int(bit(int64(len(batch)) == most)), several+int(bit(begun))
		}
		chance.Shuffle(len(list), func(i int, k int) { list[i], list[k] = list[k], list[i] })
		checkBatches(t, "in another order", impl.BatchJobs(list, most), got)
	}
	if full < 500 || several < 500 {
		t.Errorf("%d batches are full, %d are not the first of their Kind", full, several)
	}
}
